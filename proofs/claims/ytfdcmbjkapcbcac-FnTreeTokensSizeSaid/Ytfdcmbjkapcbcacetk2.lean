import Derived.Test.Ytfdcmbjkapcbcacetk1
import Derived.Test.YtfdcmbjkapcbcacProg
import Derived.Test.YtfdcmbjkapcbcacChecked
open Go Go.Ab Go.Proofs
set_option maxRecDepth 100000
set_option linter.unusedVariables false
set_option linter.unusedSimpArgs false
namespace Go.Ab
namespace laws_FnTreeTokensSize
noncomputable def E : Entry := ⟨8, true, false, fun | [.d (.ints .u8 bs)] => bytesB bs | _ => false, fun | [.d (.ints .u8 bs)] => ([.one ((.bool true), false)], []) | _ => ([], []), fun _ => [], false, fun _ => none, none⟩
end laws_FnTreeTokensSize
namespace laws_FnTreeTokensSize
noncomputable def X : List Entry := [spec_DrawTreeTokens.E, impl_TreeTokens.E, spec_TreeTokens.E, laws_equalTokens.E]
noncomputable def I : List Inl := [⟨8, Try.f8, ⟨[14, 17, 22, 66], [], [], [], [], []⟩⟩]
theorem I_ok : ∀ i ∈ I, Try.prog.funcs[i.f]? = some i.fn ∧ (i.fn.name == "runtime.NumGoroutine") = false := by
  intro i hi
  simp only [I, List.mem_cons, List.not_mem_nil, or_false] at hi
  subst hi
  exact ⟨by kernel_rfl, by kernel_rfl⟩
theorem e (fuel : Nat) (p0 : List Int) : runF Try.prog X I 0 fuel 8 Try.f8 [.d (.ints .u8 p0)] =
  (bif (decide ((((p0.length : Nat) : Int) : Int) > 1048576)) then
  some ([.one ((.bool true), false)], [])
  else
  (bif bytesB p0 then
  (bif treesB ((treeDs (Tr.ks (anyT (cutC p0) 0)))) then
  (bif validT 8 (mkT ((Tr.k (anyT (cutC p0) 0))) ((Tr.s (anyT (cutC p0) 0))) ((Tr.n (anyT (cutC p0) 0))) ((Tr.xs (anyT (cutC p0) 0))) ((treeDs (Tr.ks (anyT (cutC p0) 0))))) && decide ((toksT (mkT ((Tr.k (anyT (cutC p0) 0))) ((Tr.s (anyT (cutC p0) 0))) ((Tr.n (anyT (cutC p0) 0))) ((Tr.xs (anyT (cutC p0) 0))) ((treeDs (Tr.ks (anyT (cutC p0) 0)))))).length ≤ 40) then
  (bif treesB ((treeDs (Tr.ks (anyT (cutC p0) 0)))) then
  (bif validT 8 (mkT ((Tr.k (anyT (cutC p0) 0))) ((Tr.s (anyT (cutC p0) 0))) ((Tr.n (anyT (cutC p0) 0))) ((Tr.xs (anyT (cutC p0) 0))) ((treeDs (Tr.ks (anyT (cutC p0) 0))))) && decide ((toksT (mkT ((Tr.k (anyT (cutC p0) 0))) ((Tr.s (anyT (cutC p0) 0))) ((Tr.n (anyT (cutC p0) 0))) ((Tr.xs (anyT (cutC p0) 0))) ((treeDs (Tr.ks (anyT (cutC p0) 0)))))).length ≤ 40) then
  (bif toksB ((tokDs (toksT (mkT ((Tr.k (anyT (cutC p0) 0))) ((Tr.s (anyT (cutC p0) 0))) ((Tr.n (anyT (cutC p0) 0))) ((Tr.xs (anyT (cutC p0) 0))) ((treeDs (Tr.ks (anyT (cutC p0) 0)))))))) && toksB ((tokDs (toksT (mkT ((Tr.k (anyT (cutC p0) 0))) ((Tr.s (anyT (cutC p0) 0))) ((Tr.n (anyT (cutC p0) 0))) ((Tr.xs (anyT (cutC p0) 0))) ((treeDs (Tr.ks (anyT (cutC p0) 0)))))))) && decide ((((tokDs (toksT (mkT ((Tr.k (anyT (cutC p0) 0))) ((Tr.s (anyT (cutC p0) 0))) ((Tr.n (anyT (cutC p0) 0))) ((Tr.xs (anyT (cutC p0) 0))) ((treeDs (Tr.ks (anyT (cutC p0) 0)))))))) : List D).length < 9223372036854775808) && decide ((((tokDs (toksT (mkT ((Tr.k (anyT (cutC p0) 0))) ((Tr.s (anyT (cutC p0) 0))) ((Tr.n (anyT (cutC p0) 0))) ((Tr.xs (anyT (cutC p0) 0))) ((treeDs (Tr.ks (anyT (cutC p0) 0)))))))) : List D).length < 9223372036854775808) then
  (bif (!(toksEq ((tokDs (toksT (mkT ((Tr.k (anyT (cutC p0) 0))) ((Tr.s (anyT (cutC p0) 0))) ((Tr.n (anyT (cutC p0) 0))) ((Tr.xs (anyT (cutC p0) 0))) ((treeDs (Tr.ks (anyT (cutC p0) 0)))))))) ((tokDs (toksT (mkT ((Tr.k (anyT (cutC p0) 0))) ((Tr.s (anyT (cutC p0) 0))) ((Tr.n (anyT (cutC p0) 0))) ((Tr.xs (anyT (cutC p0) 0))) ((treeDs (Tr.ks (anyT (cutC p0) 0)))))))))) then
  (bif toksB ((tokDs (toksT (mkT ((Tr.k (anyT (cutC p0) 0))) ((Tr.s (anyT (cutC p0) 0))) ((Tr.n (anyT (cutC p0) 0))) ((Tr.xs (anyT (cutC p0) 0))) ((treeDs (Tr.ks (anyT (cutC p0) 0)))))))) && toksB ((tokDs (toksT (mkT ((Tr.k (anyT (cutC p0) 0))) ((Tr.s (anyT (cutC p0) 0))) ((Tr.n (anyT (cutC p0) 0))) ((Tr.xs (anyT (cutC p0) 0))) ((treeDs (Tr.ks (anyT (cutC p0) 0)))))))) && decide ((((tokDs (toksT (mkT ((Tr.k (anyT (cutC p0) 0))) ((Tr.s (anyT (cutC p0) 0))) ((Tr.n (anyT (cutC p0) 0))) ((Tr.xs (anyT (cutC p0) 0))) ((treeDs (Tr.ks (anyT (cutC p0) 0)))))))) : List D).length < 9223372036854775808) && decide ((((tokDs (toksT (mkT ((Tr.k (anyT (cutC p0) 0))) ((Tr.s (anyT (cutC p0) 0))) ((Tr.n (anyT (cutC p0) 0))) ((Tr.xs (anyT (cutC p0) 0))) ((treeDs (Tr.ks (anyT (cutC p0) 0)))))))) : List D).length < 9223372036854775808) then
  (bif (toksEq ((tokDs (toksT (mkT ((Tr.k (anyT (cutC p0) 0))) ((Tr.s (anyT (cutC p0) 0))) ((Tr.n (anyT (cutC p0) 0))) ((Tr.xs (anyT (cutC p0) 0))) ((treeDs (Tr.ks (anyT (cutC p0) 0)))))))) ((tokDs (toksT (mkT ((Tr.k (anyT (cutC p0) 0))) ((Tr.s (anyT (cutC p0) 0))) ((Tr.n (anyT (cutC p0) 0))) ((Tr.xs (anyT (cutC p0) 0))) ((treeDs (Tr.ks (anyT (cutC p0) 0))))))))) then
  some ([.one ((.bool (true == true)), false)], [])
  else
  some ([.one ((.bool false), false)], []))
  else
  none)
  else
  (bif (!(true == true)) then
  (bif toksB ((tokDs (toksT (mkT ((Tr.k (anyT (cutC p0) 0))) ((Tr.s (anyT (cutC p0) 0))) ((Tr.n (anyT (cutC p0) 0))) ((Tr.xs (anyT (cutC p0) 0))) ((treeDs (Tr.ks (anyT (cutC p0) 0)))))))) && toksB ((tokDs (toksT (mkT ((Tr.k (anyT (cutC p0) 0))) ((Tr.s (anyT (cutC p0) 0))) ((Tr.n (anyT (cutC p0) 0))) ((Tr.xs (anyT (cutC p0) 0))) ((treeDs (Tr.ks (anyT (cutC p0) 0)))))))) && decide ((((tokDs (toksT (mkT ((Tr.k (anyT (cutC p0) 0))) ((Tr.s (anyT (cutC p0) 0))) ((Tr.n (anyT (cutC p0) 0))) ((Tr.xs (anyT (cutC p0) 0))) ((treeDs (Tr.ks (anyT (cutC p0) 0)))))))) : List D).length < 9223372036854775808) && decide ((((tokDs (toksT (mkT ((Tr.k (anyT (cutC p0) 0))) ((Tr.s (anyT (cutC p0) 0))) ((Tr.n (anyT (cutC p0) 0))) ((Tr.xs (anyT (cutC p0) 0))) ((treeDs (Tr.ks (anyT (cutC p0) 0)))))))) : List D).length < 9223372036854775808) then
  (bif (toksEq ((tokDs (toksT (mkT ((Tr.k (anyT (cutC p0) 0))) ((Tr.s (anyT (cutC p0) 0))) ((Tr.n (anyT (cutC p0) 0))) ((Tr.xs (anyT (cutC p0) 0))) ((treeDs (Tr.ks (anyT (cutC p0) 0)))))))) ((tokDs (toksT (mkT ((Tr.k (anyT (cutC p0) 0))) ((Tr.s (anyT (cutC p0) 0))) ((Tr.n (anyT (cutC p0) 0))) ((Tr.xs (anyT (cutC p0) 0))) ((treeDs (Tr.ks (anyT (cutC p0) 0))))))))) then
  some ([.one ((.bool (true == true)), false)], [])
  else
  some ([.one ((.bool false), false)], []))
  else
  none)
  else
  (bif (((Tr.k (anyT (cutC p0) 0)) : Int) == 0) then
  some ([.one ((.bool (((((tokDs (toksT (mkT ((Tr.k (anyT (cutC p0) 0))) ((Tr.s (anyT (cutC p0) 0))) ((Tr.n (anyT (cutC p0) 0))) ((Tr.xs (anyT (cutC p0) 0))) ((treeDs (Tr.ks (anyT (cutC p0) 0))))))).length : Nat) : Int) : Int) == (((Tr.xs (anyT (cutC p0) 0)).length : Nat) : Int))), false)], [])
  else
  (bif (((Tr.k (anyT (cutC p0) 0)) : Int) != 2) then
  some ([.one ((.bool (decide (((((tokDs (toksT (mkT ((Tr.k (anyT (cutC p0) 0))) ((Tr.s (anyT (cutC p0) 0))) ((Tr.n (anyT (cutC p0) 0))) ((Tr.xs (anyT (cutC p0) 0))) ((treeDs (Tr.ks (anyT (cutC p0) 0))))))).length : Nat) : Int) : Int) > 0))), false)], [])
  else
  (idx 0 (treeDs (Tr.ks (anyT (cutC p0) 0))).length).bind fun j2 =>
  (bif okS [.int .i64, .int .i64, .int .i64, .ints .i64, .seq 5] ((treeDs (Tr.ks (anyT (cutC p0) 0)))) j2 then
  (bif treesB ((cellQ ((treeDs (Tr.ks (anyT (cutC p0) 0)))) j2 4)) then
  (bif validT 8 (mkT ((cellI ((treeDs (Tr.ks (anyT (cutC p0) 0)))) j2 0)) ((cellI ((treeDs (Tr.ks (anyT (cutC p0) 0)))) j2 1)) ((cellI ((treeDs (Tr.ks (anyT (cutC p0) 0)))) j2 2)) ((cellL ((treeDs (Tr.ks (anyT (cutC p0) 0)))) j2 3)) ((cellQ ((treeDs (Tr.ks (anyT (cutC p0) 0)))) j2 4))) && decide ((toksT (mkT ((cellI ((treeDs (Tr.ks (anyT (cutC p0) 0)))) j2 0)) ((cellI ((treeDs (Tr.ks (anyT (cutC p0) 0)))) j2 1)) ((cellI ((treeDs (Tr.ks (anyT (cutC p0) 0)))) j2 2)) ((cellL ((treeDs (Tr.ks (anyT (cutC p0) 0)))) j2 3)) ((cellQ ((treeDs (Tr.ks (anyT (cutC p0) 0)))) j2 4)))).length ≤ 40) then
  some ([.one ((.bool (((((tokDs (toksT (mkT ((Tr.k (anyT (cutC p0) 0))) ((Tr.s (anyT (cutC p0) 0))) ((Tr.n (anyT (cutC p0) 0))) ((Tr.xs (anyT (cutC p0) 0))) ((treeDs (Tr.ks (anyT (cutC p0) 0))))))).length : Nat) : Int) : Int) == (IntKind.wrap .i64 ((((tokDs (toksT (mkT ((cellI ((treeDs (Tr.ks (anyT (cutC p0) 0)))) j2 0)) ((cellI ((treeDs (Tr.ks (anyT (cutC p0) 0)))) j2 1)) ((cellI ((treeDs (Tr.ks (anyT (cutC p0) 0)))) j2 2)) ((cellL ((treeDs (Tr.ks (anyT (cutC p0) 0)))) j2 3)) ((cellQ ((treeDs (Tr.ks (anyT (cutC p0) 0)))) j2 4))))).length : Nat) : Int) + 1)))), false)], [])
  else
  some ([.one ((.bool false), false)], []))
  else
  none)
  else
  none)))))
  else
  none)
  else
  (bif toksB ((tokDs (toksT (mkT ((Tr.k (anyT (cutC p0) 0))) ((Tr.s (anyT (cutC p0) 0))) ((Tr.n (anyT (cutC p0) 0))) ((Tr.xs (anyT (cutC p0) 0))) ((treeDs (Tr.ks (anyT (cutC p0) 0)))))))) && toksB (([] : List D)) && decide ((((tokDs (toksT (mkT ((Tr.k (anyT (cutC p0) 0))) ((Tr.s (anyT (cutC p0) 0))) ((Tr.n (anyT (cutC p0) 0))) ((Tr.xs (anyT (cutC p0) 0))) ((treeDs (Tr.ks (anyT (cutC p0) 0)))))))) : List D).length < 9223372036854775808) && decide (((([] : List D)) : List D).length < 9223372036854775808) then
  (bif (!(toksEq ((tokDs (toksT (mkT ((Tr.k (anyT (cutC p0) 0))) ((Tr.s (anyT (cutC p0) 0))) ((Tr.n (anyT (cutC p0) 0))) ((Tr.xs (anyT (cutC p0) 0))) ((treeDs (Tr.ks (anyT (cutC p0) 0)))))))) (([] : List D)))) then
  (bif toksB ((tokDs (toksT (mkT ((Tr.k (anyT (cutC p0) 0))) ((Tr.s (anyT (cutC p0) 0))) ((Tr.n (anyT (cutC p0) 0))) ((Tr.xs (anyT (cutC p0) 0))) ((treeDs (Tr.ks (anyT (cutC p0) 0)))))))) && toksB (([] : List D)) && decide ((((tokDs (toksT (mkT ((Tr.k (anyT (cutC p0) 0))) ((Tr.s (anyT (cutC p0) 0))) ((Tr.n (anyT (cutC p0) 0))) ((Tr.xs (anyT (cutC p0) 0))) ((treeDs (Tr.ks (anyT (cutC p0) 0)))))))) : List D).length < 9223372036854775808) && decide (((([] : List D)) : List D).length < 9223372036854775808) then
  (bif (toksEq ((tokDs (toksT (mkT ((Tr.k (anyT (cutC p0) 0))) ((Tr.s (anyT (cutC p0) 0))) ((Tr.n (anyT (cutC p0) 0))) ((Tr.xs (anyT (cutC p0) 0))) ((treeDs (Tr.ks (anyT (cutC p0) 0)))))))) (([] : List D))) then
  some ([.one ((.bool (true == false)), false)], [])
  else
  some ([.one ((.bool false), false)], []))
  else
  none)
  else
  (bif (!(true == false)) then
  (bif toksB ((tokDs (toksT (mkT ((Tr.k (anyT (cutC p0) 0))) ((Tr.s (anyT (cutC p0) 0))) ((Tr.n (anyT (cutC p0) 0))) ((Tr.xs (anyT (cutC p0) 0))) ((treeDs (Tr.ks (anyT (cutC p0) 0)))))))) && toksB (([] : List D)) && decide ((((tokDs (toksT (mkT ((Tr.k (anyT (cutC p0) 0))) ((Tr.s (anyT (cutC p0) 0))) ((Tr.n (anyT (cutC p0) 0))) ((Tr.xs (anyT (cutC p0) 0))) ((treeDs (Tr.ks (anyT (cutC p0) 0)))))))) : List D).length < 9223372036854775808) && decide (((([] : List D)) : List D).length < 9223372036854775808) then
  (bif (toksEq ((tokDs (toksT (mkT ((Tr.k (anyT (cutC p0) 0))) ((Tr.s (anyT (cutC p0) 0))) ((Tr.n (anyT (cutC p0) 0))) ((Tr.xs (anyT (cutC p0) 0))) ((treeDs (Tr.ks (anyT (cutC p0) 0)))))))) (([] : List D))) then
  some ([.one ((.bool (true == false)), false)], [])
  else
  some ([.one ((.bool false), false)], []))
  else
  none)
  else
  (bif (((Tr.k (anyT (cutC p0) 0)) : Int) == 0) then
  some ([.one ((.bool (((((tokDs (toksT (mkT ((Tr.k (anyT (cutC p0) 0))) ((Tr.s (anyT (cutC p0) 0))) ((Tr.n (anyT (cutC p0) 0))) ((Tr.xs (anyT (cutC p0) 0))) ((treeDs (Tr.ks (anyT (cutC p0) 0))))))).length : Nat) : Int) : Int) == (((Tr.xs (anyT (cutC p0) 0)).length : Nat) : Int))), false)], [])
  else
  (bif (((Tr.k (anyT (cutC p0) 0)) : Int) != 2) then
  some ([.one ((.bool (decide (((((tokDs (toksT (mkT ((Tr.k (anyT (cutC p0) 0))) ((Tr.s (anyT (cutC p0) 0))) ((Tr.n (anyT (cutC p0) 0))) ((Tr.xs (anyT (cutC p0) 0))) ((treeDs (Tr.ks (anyT (cutC p0) 0))))))).length : Nat) : Int) : Int) > 0))), false)], [])
  else
  (idx 0 (treeDs (Tr.ks (anyT (cutC p0) 0))).length).bind fun j1 =>
  (bif okS [.int .i64, .int .i64, .int .i64, .ints .i64, .seq 5] ((treeDs (Tr.ks (anyT (cutC p0) 0)))) j1 then
  (bif treesB ((cellQ ((treeDs (Tr.ks (anyT (cutC p0) 0)))) j1 4)) then
  (bif validT 8 (mkT ((cellI ((treeDs (Tr.ks (anyT (cutC p0) 0)))) j1 0)) ((cellI ((treeDs (Tr.ks (anyT (cutC p0) 0)))) j1 1)) ((cellI ((treeDs (Tr.ks (anyT (cutC p0) 0)))) j1 2)) ((cellL ((treeDs (Tr.ks (anyT (cutC p0) 0)))) j1 3)) ((cellQ ((treeDs (Tr.ks (anyT (cutC p0) 0)))) j1 4))) && decide ((toksT (mkT ((cellI ((treeDs (Tr.ks (anyT (cutC p0) 0)))) j1 0)) ((cellI ((treeDs (Tr.ks (anyT (cutC p0) 0)))) j1 1)) ((cellI ((treeDs (Tr.ks (anyT (cutC p0) 0)))) j1 2)) ((cellL ((treeDs (Tr.ks (anyT (cutC p0) 0)))) j1 3)) ((cellQ ((treeDs (Tr.ks (anyT (cutC p0) 0)))) j1 4)))).length ≤ 40) then
  some ([.one ((.bool (((((tokDs (toksT (mkT ((Tr.k (anyT (cutC p0) 0))) ((Tr.s (anyT (cutC p0) 0))) ((Tr.n (anyT (cutC p0) 0))) ((Tr.xs (anyT (cutC p0) 0))) ((treeDs (Tr.ks (anyT (cutC p0) 0))))))).length : Nat) : Int) : Int) == (IntKind.wrap .i64 ((((tokDs (toksT (mkT ((cellI ((treeDs (Tr.ks (anyT (cutC p0) 0)))) j1 0)) ((cellI ((treeDs (Tr.ks (anyT (cutC p0) 0)))) j1 1)) ((cellI ((treeDs (Tr.ks (anyT (cutC p0) 0)))) j1 2)) ((cellL ((treeDs (Tr.ks (anyT (cutC p0) 0)))) j1 3)) ((cellQ ((treeDs (Tr.ks (anyT (cutC p0) 0)))) j1 4))))).length : Nat) : Int) + 1)))), false)], [])
  else
  some ([.one ((.bool false), false)], []))
  else
  none)
  else
  none)))))
  else
  none))
  else
  none)
  else
  (bif treesB ((treeDs (Tr.ks (anyT (cutC p0) 0)))) then
  (bif validT 8 (mkT ((Tr.k (anyT (cutC p0) 0))) ((Tr.s (anyT (cutC p0) 0))) ((Tr.n (anyT (cutC p0) 0))) ((Tr.xs (anyT (cutC p0) 0))) ((treeDs (Tr.ks (anyT (cutC p0) 0))))) && decide ((toksT (mkT ((Tr.k (anyT (cutC p0) 0))) ((Tr.s (anyT (cutC p0) 0))) ((Tr.n (anyT (cutC p0) 0))) ((Tr.xs (anyT (cutC p0) 0))) ((treeDs (Tr.ks (anyT (cutC p0) 0)))))).length ≤ 40) then
  (bif toksB (([] : List D)) && toksB ((tokDs (toksT (mkT ((Tr.k (anyT (cutC p0) 0))) ((Tr.s (anyT (cutC p0) 0))) ((Tr.n (anyT (cutC p0) 0))) ((Tr.xs (anyT (cutC p0) 0))) ((treeDs (Tr.ks (anyT (cutC p0) 0)))))))) && decide (((([] : List D)) : List D).length < 9223372036854775808) && decide ((((tokDs (toksT (mkT ((Tr.k (anyT (cutC p0) 0))) ((Tr.s (anyT (cutC p0) 0))) ((Tr.n (anyT (cutC p0) 0))) ((Tr.xs (anyT (cutC p0) 0))) ((treeDs (Tr.ks (anyT (cutC p0) 0)))))))) : List D).length < 9223372036854775808) then
  (bif (!(toksEq (([] : List D)) ((tokDs (toksT (mkT ((Tr.k (anyT (cutC p0) 0))) ((Tr.s (anyT (cutC p0) 0))) ((Tr.n (anyT (cutC p0) 0))) ((Tr.xs (anyT (cutC p0) 0))) ((treeDs (Tr.ks (anyT (cutC p0) 0)))))))))) then
  (bif toksB (([] : List D)) && toksB ((tokDs (toksT (mkT ((Tr.k (anyT (cutC p0) 0))) ((Tr.s (anyT (cutC p0) 0))) ((Tr.n (anyT (cutC p0) 0))) ((Tr.xs (anyT (cutC p0) 0))) ((treeDs (Tr.ks (anyT (cutC p0) 0)))))))) && decide (((([] : List D)) : List D).length < 9223372036854775808) && decide ((((tokDs (toksT (mkT ((Tr.k (anyT (cutC p0) 0))) ((Tr.s (anyT (cutC p0) 0))) ((Tr.n (anyT (cutC p0) 0))) ((Tr.xs (anyT (cutC p0) 0))) ((treeDs (Tr.ks (anyT (cutC p0) 0)))))))) : List D).length < 9223372036854775808) then
  (bif (toksEq (([] : List D)) ((tokDs (toksT (mkT ((Tr.k (anyT (cutC p0) 0))) ((Tr.s (anyT (cutC p0) 0))) ((Tr.n (anyT (cutC p0) 0))) ((Tr.xs (anyT (cutC p0) 0))) ((treeDs (Tr.ks (anyT (cutC p0) 0))))))))) then
  some ([.one ((.bool (false == true)), false)], [])
  else
  some ([.one ((.bool false), false)], []))
  else
  none)
  else
  (bif (!(false == true)) then
  (bif toksB (([] : List D)) && toksB ((tokDs (toksT (mkT ((Tr.k (anyT (cutC p0) 0))) ((Tr.s (anyT (cutC p0) 0))) ((Tr.n (anyT (cutC p0) 0))) ((Tr.xs (anyT (cutC p0) 0))) ((treeDs (Tr.ks (anyT (cutC p0) 0)))))))) && decide (((([] : List D)) : List D).length < 9223372036854775808) && decide ((((tokDs (toksT (mkT ((Tr.k (anyT (cutC p0) 0))) ((Tr.s (anyT (cutC p0) 0))) ((Tr.n (anyT (cutC p0) 0))) ((Tr.xs (anyT (cutC p0) 0))) ((treeDs (Tr.ks (anyT (cutC p0) 0)))))))) : List D).length < 9223372036854775808) then
  (bif (toksEq (([] : List D)) ((tokDs (toksT (mkT ((Tr.k (anyT (cutC p0) 0))) ((Tr.s (anyT (cutC p0) 0))) ((Tr.n (anyT (cutC p0) 0))) ((Tr.xs (anyT (cutC p0) 0))) ((treeDs (Tr.ks (anyT (cutC p0) 0))))))))) then
  some ([.one ((.bool (false == true)), false)], [])
  else
  some ([.one ((.bool false), false)], []))
  else
  none)
  else
  (bif toksB (([] : List D)) && toksB ((tokDs (toksT (mkT ((Tr.k (anyT (cutC p0) 0))) ((Tr.s (anyT (cutC p0) 0))) ((Tr.n (anyT (cutC p0) 0))) ((Tr.xs (anyT (cutC p0) 0))) ((treeDs (Tr.ks (anyT (cutC p0) 0)))))))) && decide (((([] : List D)) : List D).length < 9223372036854775808) && decide ((((tokDs (toksT (mkT ((Tr.k (anyT (cutC p0) 0))) ((Tr.s (anyT (cutC p0) 0))) ((Tr.n (anyT (cutC p0) 0))) ((Tr.xs (anyT (cutC p0) 0))) ((treeDs (Tr.ks (anyT (cutC p0) 0)))))))) : List D).length < 9223372036854775808) then
  (bif (toksEq (([] : List D)) ((tokDs (toksT (mkT ((Tr.k (anyT (cutC p0) 0))) ((Tr.s (anyT (cutC p0) 0))) ((Tr.n (anyT (cutC p0) 0))) ((Tr.xs (anyT (cutC p0) 0))) ((treeDs (Tr.ks (anyT (cutC p0) 0))))))))) then
  some ([.one ((.bool (false == true)), false)], [])
  else
  some ([.one ((.bool false), false)], []))
  else
  none)))
  else
  none)
  else
  (bif toksB (([] : List D)) && toksB (([] : List D)) && decide (((([] : List D)) : List D).length < 9223372036854775808) && decide (((([] : List D)) : List D).length < 9223372036854775808) then
  (bif (!(toksEq (([] : List D)) (([] : List D)))) then
  (bif toksB (([] : List D)) && toksB (([] : List D)) && decide (((([] : List D)) : List D).length < 9223372036854775808) && decide (((([] : List D)) : List D).length < 9223372036854775808) then
  (bif (toksEq (([] : List D)) (([] : List D))) then
  some ([.one ((.bool (false == false)), false)], [])
  else
  some ([.one ((.bool false), false)], []))
  else
  none)
  else
  (bif (!(false == false)) then
  (bif toksB (([] : List D)) && toksB (([] : List D)) && decide (((([] : List D)) : List D).length < 9223372036854775808) && decide (((([] : List D)) : List D).length < 9223372036854775808) then
  (bif (toksEq (([] : List D)) (([] : List D))) then
  some ([.one ((.bool (false == false)), false)], [])
  else
  some ([.one ((.bool false), false)], []))
  else
  none)
  else
  (bif toksB (([] : List D)) && toksB (([] : List D)) && decide (((([] : List D)) : List D).length < 9223372036854775808) && decide (((([] : List D)) : List D).length < 9223372036854775808) then
  (bif (toksEq (([] : List D)) (([] : List D))) then
  some ([.one ((.bool (false == false)), false)], [])
  else
  some ([.one ((.bool false), false)], []))
  else
  none)))
  else
  none))
  else
  none))
  else
  none)
  else
  none)) := by kernel_rfl
end laws_FnTreeTokensSize
theorem laws_FnTreeTokensSize.ok_of (hX : ∀ E ∈ laws_FnTreeTokensSize.X, CallSpec Try.prog E) (h : ∀ (bs : List Int), (bytesB bs) = true → ∃ fuel, runF Try.prog laws_FnTreeTokensSize.X laws_FnTreeTokensSize.I 0 fuel 8 Try.f8 [.d (.ints .u8 bs)] = some ([.one ((.bool true), false)], [])) : CallSpec Try.prog laws_FnTreeTokensSize.E :=
  callSpec_of (d := 0) hX (by kernel_rfl) laws_FnTreeTokensSize.I_ok (by kernel_rfl) (by kernel_rfl) (by kernel_rfl) (fun _ _ _ _ h => by dsimp only [laws_FnTreeTokensSize.E] at h; cases h) (fun xs hp => by
    dsimp only [laws_FnTreeTokensSize.E] at hp ⊢
    split at hp
    · exact h _ hp
    · cases hp)
theorem laws_FnTreeTokensSize.ok : CallSpec Try.prog laws_FnTreeTokensSize.E := laws_FnTreeTokensSize.ok_of (by simp [laws_FnTreeTokensSize.X, spec_DrawTreeTokens.ok, impl_TreeTokens.ok, spec_TreeTokens.ok, laws_equalTokens.ok]) fun bs h => by
  generalize hT : anyT (cutC bs) 0 = T
  refine ⟨4, ?_⟩
  rw [laws_FnTreeTokensSize.e, h, hT, treesB_treeDs, mkT_treeDs, Tr.eta]
  by_cases hl : ((bs.length : Nat) : Int) > 1048576
  · rw [decide_eq_true hl]; rfl
  rw [decide_eq_false hl, cond_false, cond_true, cond_true, cond_true]
  have hnil : toksB ([] : List D) = true := toksB_tokDs []
  have hnn : toksEq ([] : List D) [] = true := toksEq_iff.2 rfl
  cases hv : validT 8 T && decide ((toksT T).length ≤ 40) with
  | false =>
    rw [cond_false, cond_false, hnil, hnn]
    rfl
  | true =>
    simp only [Bool.and_eq_true, decide_eq_true_eq] at hv
    obtain ⟨hv, h40⟩ := hv
    have h63 : decide ((toksT T).length < 9223372036854775808) = true := decide_eq_true (by omega)
    rw [cond_true, cond_true, toksB_tokDs, toksEq_tok, decide_eq_true (p := toksT T = toksT T) rfl, tokDs_length, h63, Bool.and_self, Bool.and_self, cond_true, Bool.not_true, cond_false, beq_self_eq_true, Bool.not_true, cond_false]
    obtain ⟨k, s, n, xs, ts⟩ := T
    have hv' : validT (7 + 1) (.mk k s n xs ts) = true := hv
    rw [validT] at hv'
    simp only [Bool.and_eq_true, decide_eq_true_eq, List.all_eq_true] at hv'
    obtain ⟨⟨⟨hb, hk⟩, hp⟩, ha⟩ := hv'
    rcases partOk_kind hp with rfl | rfl | rfl | rfl | rfl
    · rw [show ((Tr.mk 0 s n xs ts).k == 0) = true from rfl, cond_true, toksT0]
      show some (([.one (.bool ((((numT xs).length : Nat) : Int) == ((xs.length : Nat) : Int)), false)], []) : Ret) = _
      simp [numT]
    · rw [show ((Tr.mk 1 s n xs ts).k == 0) = false from rfl, cond_false, show ((Tr.mk 1 s n xs ts).k != 2) = true from rfl, cond_true, toksT1]
      rfl
    · obtain ⟨a, rfl⟩ : ∃ a, ts = [a] := List.length_eq_one_iff.1 hk
      have va := validT_mono 7 a (ha a (by simp))
      have v0 : okS [.int .i64, .int .i64, .int .i64, .ints .i64, .seq 5] (treeDs (Tr.mk 2 s n xs [a]).ks) 0 = true := (tr_view (ts := [a]) (i := 0) (by simp)).1
      have m0 : mkT (cellI (treeDs (Tr.mk 2 s n xs [a]).ks) 0 0) (cellI (treeDs (Tr.mk 2 s n xs [a]).ks) 0 1) (cellI (treeDs (Tr.mk 2 s n xs [a]).ks) 0 2) (cellL (treeDs (Tr.mk 2 s n xs [a]).ks) 0 3) (cellQ (treeDs (Tr.mk 2 s n xs [a]).ks) 0 4) = a := tr_mk (ts := [a]) (i := 0) (by simp)
      have b0 : treesB (cellQ (treeDs (Tr.mk 2 s n xs [a]).ks) 0 4) = true := tr_tb (ts := [a]) (i := 0) (by simp)
      rw [toksT2] at h40
      simp only [List.length_cons] at h40
      rw [show ((Tr.mk 2 s n xs [a]).k == 0) = false from rfl, cond_false, show ((Tr.mk 2 s n xs [a]).k != 2) = false from rfl, cond_false, show idx 0 (treeDs (Tr.mk 2 s n xs [a]).ks).length = some 0 by rw [treeDs_length]; rfl, Option.bind_some, v0, cond_true, b0, cond_true, m0, va, decide_eq_true (p := (toksT a).length ≤ 40) (by omega), Bool.and_self, cond_true, tokDs_length, toksT2, List.length_cons, w1 (by omega), beq_self_eq_true]
      rfl
    · rw [show ((Tr.mk 3 s n xs ts).k == 0) = false from rfl, cond_false, show ((Tr.mk 3 s n xs ts).k != 2) = true from rfl, cond_true]
      obtain ⟨a, b, rfl⟩ : ∃ a b, ts = [a, b] := by match ts, hk with | [a, b], _ => exact ⟨a, b, rfl⟩
      rw [toksT3, decide_eq_true (by simp; omega)]
      rfl
    · rw [show ((Tr.mk 4 s n xs ts).k == 0) = false from rfl, cond_false, show ((Tr.mk 4 s n xs ts).k != 2) = true from rfl, cond_true]
      obtain ⟨a, rfl⟩ : ∃ a, ts = [a] := List.length_eq_one_iff.1 hk
      rw [toksT4, decide_eq_true (by simp; omega)]
      rfl

end Go.Ab

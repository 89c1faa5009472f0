import Derived.Test.YtjcfijhgkfdcoaaEg1
import Derived.Test.YtjcfijhgkfdcoaaProg
import Derived.Test.YtjcfijhgkfdcoaaChecked
open Go Go.Ab Go.Proofs
set_option maxRecDepth 100000
set_option linter.unusedVariables false
set_option linter.unusedSimpArgs false
namespace Go.Ab
namespace smv3
noncomputable def E : Entry := ⟨42, false, true, fun | [.rows true [(.i64, xs)], .d (.int .i64 a), .d (.int .i64 m), .d (.int .i64 b), .d (.fn false dom G)] => decide ((xs : List Int).length ≤ 60) && domA dom xs && mgW G xs a m b && decide (0 ≤ a) && decide (a < m) && decide (m < b) && decide (b - a ≤ 8) | _ => false, fun | [.rows true [(.i64, xs)], .d (.int .i64 a), .d (.int .i64 m), .d (.int .i64 b), .d (.fn false dom G)] => ([], [[(.ints .i64 (segS (ltG G) a.toNat b.toNat xs))]]) | _ => ([], []), fun _ => [], false, fun _ => none⟩
end smv3
namespace smv3
noncomputable def X : List Entry := [smv2.E]
noncomputable def I : List Inl := [⟨42, Try.f42, ⟨[], [(40, [5, 6, 7, 8, 9, 10, 11, 12, 13, 14, 15, 16, 17, 19, 21, 22, 23, 25, 26, 27, 28, 29, 30, 31, 32, 33, 34, 35, 36, 37, 38, 39, 40, 41, 42, 43, 44, 45, 46, 47, 48, 49, 50, 51, 52, 53, 54, 55, 56, 57, 58, 59, 60, 61, 62, 63, 64, 65, 66, 67, 68, 69, 70, 71, 72, 73, 74, 75, 76, 77, 78, 79, 80, 81, 82, 83, 84, 85, 86, 87, 88, 89, 90, 91, 92, 93, 94, 95, 96, 97, 98, 99, 100, 101, 102, 103, 104, 105, 106, 107, 108, 109, 110, 111, 112, 113, 114, 115, 116, 117, 118, 119, 120, 121, 122, 123, 124, 125, 126, 127, 128, 129, 130, 131, 132, 133, 134, 135, 136, 137, 138, 139, 140, 141, 142, 143, 144, 145, 146, 147, 148, 149, 150, 151, 152, 153, 154, 155, 156, 157, 158, 159, 160, 161, 162, 163, 164, 165, 166, 167, 168, 169, 170, 171, 172, 173, 174, 175, 176, 177, 178, 179, 180, 181, 182, 183, 184, 185, 186, 187, 188, 189, 190, 191, 192, 193, 194, 195, 196, 197, 198, 199, 200, 201, 202, 203, 204, 205, 206, 207, 208, 209, 210, 211, 212, 213, 214, 215, 216, 217, 218, 219]), (1000003, [2, 3, 5, 6, 7, 8, 9, 12, 13, 14, 15, 16, 17, 18, 19, 20, 21, 22, 23, 24, 25, 26, 27, 28, 29, 30, 31, 32, 33, 34, 35, 36, 37, 38, 39, 40, 41, 42, 43, 44, 45, 46, 47, 48, 49, 50, 51, 52, 53, 54, 55, 56, 57, 58, 59, 60, 61, 62, 63, 64, 65, 66, 67, 68, 69, 70, 71, 72, 73, 74, 75, 76, 77, 78, 79, 80, 81, 82, 83, 84, 85, 86, 87, 88, 89, 90, 91, 92, 93, 94, 95, 96, 97, 98, 99, 100, 101, 102, 103, 104, 105, 106, 107, 108, 109, 110, 111, 112, 113, 114, 115, 116, 117, 118, 119, 120, 121, 122, 123, 124, 125, 126, 127, 128, 129, 130, 131, 132, 133, 134, 135, 136, 137, 138, 139, 140, 141, 142, 143, 144, 145, 146, 147, 148, 149, 150, 151, 152, 153, 154, 155, 156, 157, 158, 159, 160, 161, 162, 163, 164, 165, 166, 167, 168, 169, 170, 171, 172, 173, 174, 175, 176, 177, 178, 179, 180, 181, 182, 183, 184, 185, 186, 187, 188, 189, 190, 191, 192, 193, 194, 195, 196, 197, 198, 199, 200, 201, 202, 203, 204, 205, 206, 207, 208, 209, 210, 211, 212, 213, 214, 215, 216, 217, 218, 219]), (1000009, [1, 2, 3, 4, 5, 6, 7, 8, 9, 11, 12, 14, 15, 16, 17, 18, 19, 20, 21, 22, 23, 24, 25, 26, 27, 28, 29, 30, 31, 32, 33, 34, 35, 36, 37, 38, 39, 40, 41, 42, 43, 44, 45, 46, 47, 48, 49, 50, 51, 52, 53, 54, 55, 56, 57, 58, 59, 60, 61, 62, 63, 64, 65, 66, 67, 68, 69, 70, 71, 72, 73, 74, 75, 76, 77, 78, 79, 80, 81, 82, 83, 84, 85, 86, 87, 88, 89, 90, 91, 92, 93, 94, 95, 96, 97, 98, 99, 100, 101, 102, 103, 104, 105, 106, 107, 108, 109, 110, 111, 112, 113, 114, 115, 116, 117, 118, 119, 120, 121, 122, 123, 124, 125, 126, 127, 128, 129, 130, 131, 132, 133, 134, 135, 136, 137, 138, 139, 140, 141, 142, 143, 144, 145, 146, 147, 148, 149, 150, 151, 152, 153, 154, 155, 156, 157, 158, 159, 160, 161, 162, 163, 164, 165, 166, 167, 168, 169, 170, 171, 172, 173, 174, 175, 176, 177, 178, 179, 180, 181, 182, 183, 184, 185, 186, 187, 188, 189, 190, 191, 192, 193, 194, 195, 196, 197, 198, 199, 200, 201, 202, 203, 204, 205, 206, 207, 208, 209, 210, 211, 212, 213, 214, 215, 216, 217, 218, 219]), (1000015, [1, 3, 5, 6, 7, 8, 9, 10, 11, 12, 13, 16, 17, 18, 19, 20, 21, 22, 23, 24, 25, 26, 27, 28, 29, 30, 31, 32, 33, 34, 35, 36, 37, 38, 39, 40, 41, 42, 43, 44, 45, 46, 47, 48, 49, 50, 51, 52, 53, 54, 55, 56, 57, 58, 59, 60, 61, 62, 63, 64, 65, 66, 67, 68, 69, 70, 71, 72, 73, 74, 75, 76, 77, 78, 79, 80, 81, 82, 83, 84, 85, 86, 87, 88, 89, 90, 91, 92, 93, 94, 95, 96, 97, 98, 99, 100, 101, 102, 103, 104, 105, 106, 107, 108, 109, 110, 111, 112, 113, 114, 115, 116, 117, 118, 119, 120, 121, 122, 123, 124, 125, 126, 127, 128, 129, 130, 131, 132, 133, 134, 135, 136, 137, 138, 139, 140, 141, 142, 143, 144, 145, 146, 147, 148, 149, 150, 151, 152, 153, 154, 155, 156, 157, 158, 159, 160, 161, 162, 163, 164, 165, 166, 167, 168, 169, 170, 171, 172, 173, 174, 175, 176, 177, 178, 179, 180, 181, 182, 183, 184, 185, 186, 187, 188, 189, 190, 191, 192, 193, 194, 195, 196, 197, 198, 199, 200, 201, 202, 203, 204, 205, 206, 207, 208, 209, 210, 211, 212, 213, 214, 215, 216, 217, 218, 219]), (1000021, [1, 2, 3, 4, 5, 6, 7, 8, 9, 10, 11, 12, 13, 15, 16, 18, 19, 20, 21, 22, 23, 24, 25, 26, 27, 28, 29, 30, 31, 32, 33, 34, 35, 36, 37, 38, 39, 40, 41, 42, 43, 44, 45, 46, 47, 48, 49, 50, 51, 52, 53, 54, 55, 56, 57, 58, 59, 60, 61, 62, 63, 64, 65, 66, 67, 68, 69, 70, 71, 72, 73, 74, 75, 76, 77, 78, 79, 80, 81, 82, 83, 84, 85, 86, 87, 88, 89, 90, 91, 92, 93, 94, 95, 96, 97, 98, 99, 100, 101, 102, 103, 104, 105, 106, 107, 108, 109, 110, 111, 112, 113, 114, 115, 116, 117, 118, 119, 120, 121, 122, 123, 124, 125, 126, 127, 128, 129, 130, 131, 132, 133, 134, 135, 136, 137, 138, 139, 140, 141, 142, 143, 144, 145, 146, 147, 148, 149, 150, 151, 152, 153, 154, 155, 156, 157, 158, 159, 160, 161, 162, 163, 164, 165, 166, 167, 168, 169, 170, 171, 172, 173, 174, 175, 176, 177, 178, 179, 180, 181, 182, 183, 184, 185, 186, 187, 188, 189, 190, 191, 192, 193, 194, 195, 196, 197, 198, 199, 200, 201, 202, 203, 204, 205, 206, 207, 208, 209, 210, 211, 212, 213, 214, 215, 216, 217, 218, 219]), (1000033, [5, 6, 7, 8, 9, 10, 11, 12, 13, 14, 15, 16, 17, 23, 24, 25, 26, 27, 28, 29, 30, 31, 32, 33, 34, 35, 36, 37, 38, 39, 40, 41, 42, 43, 44, 45, 46, 47, 48, 49, 50, 51, 52, 53, 54, 55, 56, 57, 58, 59, 60, 61, 62, 63, 64, 65, 66, 67, 68, 69, 70, 71, 72, 73, 74, 75, 76, 77, 78, 79, 80, 81, 82, 83, 84, 85, 86, 87, 88, 89, 90, 91, 92, 93, 94, 95, 96, 97, 98, 99, 100, 101, 102, 103, 104, 105, 106, 107, 108, 109, 110, 111, 112, 113, 114, 115, 116, 117, 118, 119, 120, 121, 122, 123, 124, 125, 126, 127, 128, 129, 130, 131, 132, 133, 134, 135, 136, 137, 138, 139, 140, 141, 142, 143, 144, 145, 146, 147, 148, 149, 150, 151, 152, 153, 154, 155, 156, 157, 158, 159, 160, 161, 162, 163, 164, 165, 166, 167, 168, 169, 170, 171, 172, 173, 174, 175, 176, 177, 178, 179, 180, 181, 182, 183, 184, 185, 186, 187, 188, 189, 190, 191, 192, 193, 194, 195, 196, 197, 198, 199, 200, 201, 202, 203, 204, 205, 206, 207, 208, 209, 210, 211, 212, 213, 214, 215, 216, 217, 218, 219])], [], [(5, [0, 1, 2, 5, 6, 3, 4, 7, 8, 9, 10]), (11, [0, 1, 2, 3, 4, 5, 6, 7, 10, 11, 8, 9, 12, 13, 14, 15, 16, 17]), (17, [0, 1, 2, 5, 6, 3, 4, 7, 8, 9, 10, 11]), (23, [0, 1, 2, 3, 4, 5, 6, 7, 10, 11, 8, 9, 12, 13, 14, 15, 16, 17]), (35, [0, 1, 2, 3, 4, 7, 8, 5, 6, 9, 10, 11, 12, 13])], [], []⟩⟩, ⟨44, Try.f44, ⟨[], [(4, [1, 3, 5, 6, 7, 8, 9, 12, 13, 14, 15, 16, 17, 18, 19, 20, 21, 22, 23, 24, 25, 26, 27, 28, 29, 30, 31, 32, 33, 34, 35, 36, 37, 38, 39, 40, 41, 42, 43, 44, 45, 46, 47, 48, 49, 50, 51, 52, 53, 54, 55, 56, 57]), (6, [1, 3, 5, 6, 7, 8, 9, 12, 13, 14, 15, 16, 17, 18, 19, 20, 21, 22, 23, 24, 25, 26, 27, 28, 29, 30, 31, 32, 33, 34, 35, 36, 37, 38, 39, 40, 41, 42, 43, 44, 45, 46, 47, 48, 49, 50, 51, 52, 53, 54, 55, 56, 57]), (8, [1, 3, 5, 6, 7, 8, 9, 11, 12, 13, 14, 15, 16, 17, 18, 19, 20, 21, 22, 23, 24, 25, 26, 27, 28, 29, 30, 31, 32, 33, 34, 35, 36, 37, 38, 39, 40, 41, 42, 43, 44, 45, 46, 47, 48, 49, 50, 51, 52, 53, 54, 55, 56, 57]), (1000002, [1, 3, 5, 6, 7, 8, 9, 12, 13, 14, 15, 16, 17, 18, 19, 20, 21, 22, 23, 24, 25, 26, 27, 28, 29, 30, 31, 32, 33, 34, 35, 36, 37, 38, 39, 40, 41, 42, 43, 44, 45, 46, 47, 48, 49, 50, 51, 52, 53, 54, 55, 56, 57])], [], [], [], []⟩⟩, ⟨45, Try.f45, ⟨[], [(1000001, [4, 5, 6, 7, 8, 9, 11, 12, 13, 14, 15, 16, 17, 18, 19, 20, 21, 22, 23, 24, 25, 26, 27, 28, 29, 30, 31, 32, 33, 34, 35, 36, 37])], [], [(3, [0, 1, 2, 3, 4, 5, 6, 7, 8, 9, 10, 11, 14, 15, 16, 17, 12, 13, 18, 19, 20, 21, 22, 23])], [], []⟩⟩]
theorem I_ok : ∀ i ∈ I, Try.prog.funcs[i.f]? = some i.fn ∧ (i.fn.name == "runtime.NumGoroutine") = false := by
  intro i hi
  simp only [I, List.mem_cons, List.not_mem_nil, or_false] at hi
  rcases hi with rfl | rfl | rfl
  all_goals exact ⟨by kernel_rfl, by kernel_rfl⟩
noncomputable abbrev L0 (fuel n : Nat) (s : St) (k : Kont) := lAt Try.prog X I fuel false 4 false 42 (bodyOf Try.f42) [0, 1, 0, 1, 1, 0, 0] n s k
noncomputable abbrev k0  (fuel : Nat) : Kont := (kAt Try.prog X I fuel false 4 false 42 (bodyOf Try.f42) [0, 1, 0, 1, 1, 0, 0] [] (endK Try.prog Try.f42))
noncomputable def t0 (p1 : Int) (p4d : List Q → Bool) (p4g : List Q → Int) (p0 : List Int) (x0q3 : Int) (x0q4 : Int) : St := ⟨[(.all 1000000000 1), (.imm (.int .i64 p1)), .dead, .dead, (.imm (.fn false p4d p4g)), .dead, .dead, .dead, .dead, .dead, (.imm (.int .i64 x0q3)), (.imm (.int .i64 x0q4)), .dead, .dead, .dead, .dead, .dead, .dead, .dead, .dead, .dead, .dead, .dead, .dead, .dead, .dead, .dead, .dead, .dead, .dead, .dead, .dead, .dead, .dead, .dead, .dead, .dead, .dead, .dead, .dead, .dead, .dead, .dead, .dead, .dead, .dead, .dead, .dead, .dead, .dead, .dead, .dead, .dead, .dead, .dead, .dead, .dead, .dead, .dead, .dead, .dead, .dead, .dead, .dead, .dead, .dead, .dead, .dead, .dead, .dead, .dead, .dead, .dead, .dead, .dead, .dead, .dead, .dead, .dead, .dead, .dead, .dead, .dead, .dead, .dead, .dead, .dead, .dead, .dead, .dead, .dead, .dead, .dead, .dead, .dead, .dead, .dead, .dead, .dead, .dead, .dead, .dead, .dead, .dead, .dead, .dead, .dead, .dead, .dead, .dead, .dead, .dead, .dead, .dead, .dead, .dead, .dead, .dead, .dead, .dead, .dead, .dead, .dead, .dead, .dead, .dead, .dead, .dead, .dead, .dead, .dead, .dead, .dead, .dead, .dead, .dead, .dead, .dead, .dead, .dead, .dead, .dead, .dead, .dead, .dead, .dead, .dead, .dead, .dead, .dead, .dead, .dead, .dead, .dead, .dead, .dead, .dead, .dead, .dead, .dead, .dead, .dead, .dead, .dead, .dead, .dead, .dead, .dead, .dead, .dead, .dead, .dead, .dead, .dead, .dead, .dead, .dead, .dead, .dead, .dead, .dead, .dead, .dead, .dead, .dead, .dead, .dead, .dead, .dead, .dead, .dead, .dead, .dead, .dead, .dead, .dead, .dead, .dead, .dead, .dead, .dead, .dead, .dead, .dead, .dead, .dead, .dead, .dead, .dead, .dead, .dead, .dead, .dead, .dead, .dead, .dead, .dead, .dead, .dead, .dead], hOf [(1000000000, (.ints .i64 p0))], [(.all 1000000000 1)], []⟩
noncomputable abbrev L1 (fuel n : Nat) (s : St) (k : Kont) := lAt Try.prog X I fuel false 4 false 42 (bodyOf Try.f42) [0, 1, 0, 1, 1, 1, 0, 1, 0] n s k
noncomputable abbrev k1  (fuel : Nat) : Kont := (kAt Try.prog X I fuel false 4 false 42 (bodyOf Try.f42) [0, 1, 0, 1, 1, 1, 0, 1, 0] [] (endK Try.prog Try.f42))
noncomputable def t1 (x0q3 : Int) (x1q1 : Int) (x1q2 : List Int) : St := ⟨[(.all 1000000000 1), .dead, .dead, .dead, .dead, .dead, .dead, .dead, .dead, .dead, (.imm (.int .i64 x0q3)), .dead, .dead, (.imm (.int .i64 x1q1)), .dead, .dead, .dead, .dead, .dead, .dead, .dead, .dead, .dead, .dead, .dead, .dead, .dead, .dead, .dead, .dead, .dead, .dead, .dead, .dead, .dead, .dead, .dead, .dead, .dead, .dead, .dead, .dead, .dead, .dead, .dead, .dead, .dead, .dead, .dead, .dead, .dead, .dead, .dead, .dead, .dead, .dead, .dead, .dead, .dead, .dead, .dead, .dead, .dead, .dead, .dead, .dead, .dead, .dead, .dead, .dead, .dead, .dead, .dead, .dead, .dead, .dead, .dead, .dead, .dead, .dead, .dead, .dead, .dead, .dead, .dead, .dead, .dead, .dead, .dead, .dead, .dead, .dead, .dead, .dead, .dead, .dead, .dead, .dead, .dead, .dead, .dead, .dead, .dead, .dead, .dead, .dead, .dead, .dead, .dead, .dead, .dead, .dead, .dead, .dead, .dead, .dead, .dead, .dead, .dead, .dead, .dead, .dead, .dead, .dead, .dead, .dead, .dead, .dead, .dead, .dead, .dead, .dead, .dead, .dead, .dead, .dead, .dead, .dead, .dead, .dead, .dead, .dead, .dead, .dead, .dead, .dead, .dead, .dead, .dead, .dead, .dead, .dead, .dead, .dead, .dead, .dead, .dead, .dead, .dead, .dead, .dead, .dead, .dead, .dead, .dead, .dead, .dead, .dead, .dead, .dead, .dead, .dead, .dead, .dead, .dead, .dead, .dead, .dead, .dead, .dead, .dead, .dead, .dead, .dead, .dead, .dead, .dead, .dead, .dead, .dead, .dead, .dead, .dead, .dead, .dead, .dead, .dead, .dead, .dead, .dead, .dead, .dead, .dead, .dead, .dead, .dead, .dead, .dead, .dead, .dead, .dead, .dead, .dead, .dead, .dead, .dead, .dead, .dead, .dead, .dead], hOf [(1000000000, (.ints .i64 x1q2))], [(.all 1000000000 1)], []⟩
noncomputable abbrev L2 (fuel n : Nat) (s : St) (k : Kont) := lAt Try.prog X I fuel false 4 false 42 (bodyOf Try.f42) [1, 0, 1, 0, 1, 1, 0, 0] n s k
noncomputable abbrev k2  (fuel : Nat) : Kont := (kAt Try.prog X I fuel false 4 false 42 (bodyOf Try.f42) [1, 0, 1, 0, 1, 1, 0, 0] [] (endK Try.prog Try.f42))
noncomputable def t2 (p2 : Int) (p4d : List Q → Bool) (p4g : List Q → Int) (p0 : List Int) (x2q3 : Int) (x2q4 : Int) : St := ⟨[(.all 1000000000 1), .dead, (.imm (.int .i64 p2)), .dead, (.imm (.fn false p4d p4g)), .dead, .dead, .dead, .dead, .dead, .dead, .dead, .dead, .dead, (.imm (.int .i64 x2q3)), (.imm (.int .i64 x2q4)), .dead, .dead, .dead, .dead, .dead, .dead, .dead, .dead, .dead, .dead, .dead, .dead, .dead, .dead, .dead, .dead, .dead, .dead, .dead, .dead, .dead, .dead, .dead, .dead, .dead, .dead, .dead, .dead, .dead, .dead, .dead, .dead, .dead, .dead, .dead, .dead, .dead, .dead, .dead, .dead, .dead, .dead, .dead, .dead, .dead, .dead, .dead, .dead, .dead, .dead, .dead, .dead, .dead, .dead, .dead, .dead, .dead, .dead, .dead, .dead, .dead, .dead, .dead, .dead, .dead, .dead, .dead, .dead, .dead, .dead, .dead, .dead, .dead, .dead, .dead, .dead, .dead, .dead, .dead, .dead, .dead, .dead, .dead, .dead, .dead, .dead, .dead, .dead, .dead, .dead, .dead, .dead, .dead, .dead, .dead, .dead, .dead, .dead, .dead, .dead, .dead, .dead, .dead, .dead, .dead, .dead, .dead, .dead, .dead, .dead, .dead, .dead, .dead, .dead, .dead, .dead, .dead, .dead, .dead, .dead, .dead, .dead, .dead, .dead, .dead, .dead, .dead, .dead, .dead, .dead, .dead, .dead, .dead, .dead, .dead, .dead, .dead, .dead, .dead, .dead, .dead, .dead, .dead, .dead, .dead, .dead, .dead, .dead, .dead, .dead, .dead, .dead, .dead, .dead, .dead, .dead, .dead, .dead, .dead, .dead, .dead, .dead, .dead, .dead, .dead, .dead, .dead, .dead, .dead, .dead, .dead, .dead, .dead, .dead, .dead, .dead, .dead, .dead, .dead, .dead, .dead, .dead, .dead, .dead, .dead, .dead, .dead, .dead, .dead, .dead, .dead, .dead, .dead, .dead, .dead, .dead, .dead, .dead, .dead, .dead, .dead, .dead, .dead, .dead], hOf [(1000000000, (.ints .i64 p0))], [(.all 1000000000 1)], []⟩
noncomputable abbrev L3 (fuel n : Nat) (s : St) (k : Kont) := lAt Try.prog X I fuel false 4 false 42 (bodyOf Try.f42) [1, 0, 1, 0, 1, 1, 1, 0, 1, 0] n s k
noncomputable abbrev k3  (fuel : Nat) : Kont := (kAt Try.prog X I fuel false 4 false 42 (bodyOf Try.f42) [1, 0, 1, 0, 1, 1, 1, 0, 1, 0] [] (endK Try.prog Try.f42))
noncomputable def t3 (x2q3 : Int) (x3q1 : Int) (x3q2 : List Int) : St := ⟨[(.all 1000000000 1), .dead, .dead, .dead, .dead, .dead, .dead, .dead, .dead, .dead, .dead, .dead, .dead, .dead, (.imm (.int .i64 x2q3)), .dead, .dead, (.imm (.int .i64 x3q1)), .dead, .dead, .dead, .dead, .dead, .dead, .dead, .dead, .dead, .dead, .dead, .dead, .dead, .dead, .dead, .dead, .dead, .dead, .dead, .dead, .dead, .dead, .dead, .dead, .dead, .dead, .dead, .dead, .dead, .dead, .dead, .dead, .dead, .dead, .dead, .dead, .dead, .dead, .dead, .dead, .dead, .dead, .dead, .dead, .dead, .dead, .dead, .dead, .dead, .dead, .dead, .dead, .dead, .dead, .dead, .dead, .dead, .dead, .dead, .dead, .dead, .dead, .dead, .dead, .dead, .dead, .dead, .dead, .dead, .dead, .dead, .dead, .dead, .dead, .dead, .dead, .dead, .dead, .dead, .dead, .dead, .dead, .dead, .dead, .dead, .dead, .dead, .dead, .dead, .dead, .dead, .dead, .dead, .dead, .dead, .dead, .dead, .dead, .dead, .dead, .dead, .dead, .dead, .dead, .dead, .dead, .dead, .dead, .dead, .dead, .dead, .dead, .dead, .dead, .dead, .dead, .dead, .dead, .dead, .dead, .dead, .dead, .dead, .dead, .dead, .dead, .dead, .dead, .dead, .dead, .dead, .dead, .dead, .dead, .dead, .dead, .dead, .dead, .dead, .dead, .dead, .dead, .dead, .dead, .dead, .dead, .dead, .dead, .dead, .dead, .dead, .dead, .dead, .dead, .dead, .dead, .dead, .dead, .dead, .dead, .dead, .dead, .dead, .dead, .dead, .dead, .dead, .dead, .dead, .dead, .dead, .dead, .dead, .dead, .dead, .dead, .dead, .dead, .dead, .dead, .dead, .dead, .dead, .dead, .dead, .dead, .dead, .dead, .dead, .dead, .dead, .dead, .dead, .dead, .dead, .dead, .dead, .dead, .dead, .dead, .dead, .dead], hOf [(1000000000, (.ints .i64 x3q2))], [(.all 1000000000 1)], []⟩
noncomputable abbrev L4 (fuel n : Nat) (s : St) (k : Kont) := lAt Try.prog X I fuel false 4 false 42 (bodyOf Try.f42) [1, 1, 1, 1, 1, 1, 1, 0, 0] n s k
noncomputable abbrev k4  (fuel : Nat) : Kont := (kAt Try.prog X I fuel false 4 false 42 (bodyOf Try.f42) [1, 1, 1, 1, 1, 1, 1, 0, 0] [] (endK Try.prog Try.f42))
noncomputable def t4 (p1 : Int) (p2 : Int) (p3 : Int) (p4d : List Q → Bool) (p4g : List Q → Int) (p0 : List Int) (x4q7 : Int) (x4q8 : Int) : St := ⟨[(.all 1000000000 1), (.imm (.int .i64 p1)), (.imm (.int .i64 p2)), (.imm (.int .i64 p3)), (.imm (.fn false p4d p4g)), .dead, .dead, .dead, .dead, .dead, .dead, .dead, .dead, .dead, .dead, .dead, .dead, .dead, (.imm (.int .i64 (halfI p1 p3))), (.imm (.int .i64 (IntKind.wrap .i64 ((halfI p1 p3) + p2)))), (.imm (.int .i64 x4q7)), (.imm (.int .i64 x4q8)), (.imm (.int .i64 (IntKind.wrap .i64 ((IntKind.wrap .i64 ((halfI p1 p3) + p2)) - 1)))), .dead, .dead, .dead, .dead, .dead, .dead, .dead, .dead, .dead, .dead, .dead, .dead, .dead, .dead, .dead, .dead, .dead, .dead, .dead, .dead, .dead, .dead, .dead, .dead, .dead, .dead, .dead, .dead, .dead, .dead, .dead, .dead, .dead, .dead, .dead, .dead, .dead, .dead, .dead, .dead, .dead, .dead, .dead, .dead, .dead, .dead, .dead, .dead, .dead, .dead, .dead, .dead, .dead, .dead, .dead, .dead, .dead, .dead, .dead, .dead, .dead, .dead, .dead, .dead, .dead, .dead, .dead, .dead, .dead, .dead, .dead, .dead, .dead, .dead, .dead, .dead, .dead, .dead, .dead, .dead, .dead, .dead, .dead, .dead, .dead, .dead, .dead, .dead, .dead, .dead, .dead, .dead, .dead, .dead, .dead, .dead, .dead, .dead, .dead, .dead, .dead, .dead, .dead, .dead, .dead, .dead, .dead, .dead, .dead, .dead, .dead, .dead, .dead, .dead, .dead, .dead, .dead, .dead, .dead, .dead, .dead, .dead, .dead, .dead, .dead, .dead, .dead, .dead, .dead, .dead, .dead, .dead, .dead, .dead, .dead, .dead, .dead, .dead, .dead, .dead, .dead, .dead, .dead, .dead, .dead, .dead, .dead, .dead, .dead, .dead, .dead, .dead, .dead, .dead, .dead, .dead, .dead, .dead, .dead, .dead, .dead, .dead, .dead, .dead, .dead, .dead, .dead, .dead, .dead, .dead, .dead, .dead, .dead, .dead, .dead, .dead, .dead, .dead, .dead, .dead, .dead, .dead, .dead, .dead, .dead, .dead, .dead, .dead, .dead, .dead, .dead, .dead, .dead, .dead, .dead, .dead, .dead], hOf [(1000000000, (.ints .i64 p0))], [(.all 1000000000 1)], []⟩
noncomputable abbrev L5 (fuel n : Nat) (s : St) (k : Kont) := lAt Try.prog X I fuel false 3 false 44 (bodyOf Try.f44) [1, 1, 0, 0] n s k
noncomputable abbrev k5  (fuel : Nat) : Kont := (kAt Try.prog X I fuel false 3 false 44 (bodyOf Try.f44) [1, 1, 0, 0] [] (endFn Try.prog Try.f44 220 (kOp Try.prog X I fuel false 4 42 (cAt (bodyOf Try.f42) [1, 1, 1, 1, 1, 1, 1, 1, 1, 0, 1, 0]) 5 (kAt Try.prog X I fuel false 4 false 42 (bodyOf Try.f42) [1, 1, 1, 1, 1, 1, 1, 1, 1, 0, 1, 0] [] (endK Try.prog Try.f42)))))
noncomputable def t5 (p2 : Int) (p4d : List Q → Bool) (p4g : List Q → Int) (p1 : Int) (p3 : Int) (x4q7 : Int) (x5q3 : Int) (x5q4 : Int) (x5q5 : List Int) : St := ⟨[(.all 1000000000 1), .dead, (.imm (.int .i64 p2)), .dead, (.imm (.fn false p4d p4g)), .dead, .dead, .dead, .dead, .dead, (.imm (.int .i64 x5q3)), (.imm (.int .i64 x5q4)), .dead, .dead, .dead, .dead, .dead, .dead, .dead, .dead, .dead, .dead, .dead, .dead, .dead, .dead, .dead, .dead, .dead, .dead, .dead, .dead, .dead, .dead, .dead, .dead, .dead, .dead, .dead, .dead, .dead, .dead, .dead, .dead, .dead, .dead, .dead, .dead, .dead, .dead, .dead, .dead, .dead, .dead, .dead, .dead, .dead, .dead], hOf [(1000000000, (.ints .i64 x5q5))], [(.all 1000000000 1), (.imm (.int .i64 p1)), (.imm (.int .i64 p2)), (.imm (.int .i64 p3)), (.imm (.fn false p4d p4g)), .dead, .dead, .dead, .dead, .dead, .dead, .dead, .dead, .dead, .dead, .dead, .dead, .dead, (.imm (.int .i64 (halfI p1 p3))), .dead, (.imm (.int .i64 x4q7)), .dead, .dead, .dead, (.imm (.int .i64 (IntKind.wrap .i64 ((IntKind.wrap .i64 ((halfI p1 p3) + p2)) - x4q7)))), .dead, .dead, .dead, .dead, .dead, .dead, .dead, .dead, .dead, .dead, .dead, .dead, .dead, .dead, .dead, .dead, .dead, .dead, .dead, .dead, .dead, .dead, .dead, .dead, .dead, .dead, .dead, .dead, .dead, .dead, .dead, .dead, .dead, .dead, .dead, .dead, .dead, .dead, .dead, .dead, .dead, .dead, .dead, .dead, .dead, .dead, .dead, .dead, .dead, .dead, .dead, .dead, .dead, .dead, .dead, .dead, .dead, .dead, .dead, .dead, .dead, .dead, .dead, .dead, .dead, .dead, .dead, .dead, .dead, .dead, .dead, .dead, .dead, .dead, .dead, .dead, .dead, .dead, .dead, .dead, .dead, .dead, .dead, .dead, .dead, .dead, .dead, .dead, .dead, .dead, .dead, .dead, .dead, .dead, .dead, .dead, .dead, .dead, .dead, .dead, .dead, .dead, .dead, .dead, .dead, .dead, .dead, .dead, .dead, .dead, .dead, .dead, .dead, .dead, .dead, .dead, .dead, .dead, .dead, .dead, .dead, .dead, .dead, .dead, .dead, .dead, .dead, .dead, .dead, .dead, .dead, .dead, .dead, .dead, .dead, .dead, .dead, .dead, .dead, .dead, .dead, .dead, .dead, .dead, .dead, .dead, .dead, .dead, .dead, .dead, .dead, .dead, .dead, .dead, .dead, .dead, .dead, .dead, .dead, .dead, .dead, (.all 1000000000 1), (.imm (.int .i64 x4q7)), (.imm (.int .i64 p2)), (.imm (.int .i64 (IntKind.wrap .i64 ((IntKind.wrap .i64 ((halfI p1 p3) + p2)) - x4q7)))), (.imm (.fn false p4d p4g)), .dead, .dead, .dead, .dead, .dead, .dead, .dead, .dead, .dead, .dead, .dead, .dead, .dead, .dead, .dead, .dead, .dead, .dead, .dead, .dead, .dead, .dead, .dead, .dead, .dead, .dead, .dead, .dead, .dead, (.tup []), (.all 1000000000 1)], []⟩
noncomputable abbrev L6 (fuel n : Nat) (s : St) (k : Kont) := lAt Try.prog X I fuel false 2 false 45 (bodyOf Try.f45) [1, 0] n s k
noncomputable abbrev k6 (n5 : Nat) (fuel : Nat) : Kont := (kAt Try.prog X I fuel false 2 false 45 (bodyOf Try.f45) [1, 0] [] (endFn Try.prog Try.f45 58 (kOp Try.prog X I fuel false 3 44 (cAt (bodyOf Try.f44) [1, 1, 0, 0, 0, 1, 0, 1, 0, 0]) 7 (kAt Try.prog X I fuel false 3 false 44 (bodyOf Try.f44) [1, 1, 0, 0, 0, 1, 0, 1, 0, 0] [n5] (endFn Try.prog Try.f44 220 (kOp Try.prog X I fuel false 4 42 (cAt (bodyOf Try.f42) [1, 1, 1, 1, 1, 1, 1, 1, 1, 0, 1, 0]) 5 (kAt Try.prog X I fuel false 4 false 42 (bodyOf Try.f42) [1, 1, 1, 1, 1, 1, 1, 1, 1, 0, 1, 0] [] (endK Try.prog Try.f42))))))))
noncomputable def t6 (p2 : Int) (x5q3 : Int) (x5q4 : Int) (p4d : List Q → Bool) (p4g : List Q → Int) (p1 : Int) (p3 : Int) (x4q7 : Int) (x6q3 : Int) (x6q4 : List Int) : St := ⟨[(.all 1000000000 1), (.imm (.int .i64 (IntKind.wrap .i64 (p2 - x5q3)))), (.imm (.int .i64 p2)), (.imm (.int .i64 x5q4)), .dead, .dead, .dead, .dead, .dead, .dead, (.imm (.int .i64 x6q3)), .dead, .dead, .dead, .dead, .dead, .dead, .dead, .dead, .dead, .dead, .dead, .dead, .dead, .dead, .dead, .dead, .dead, .dead, .dead, .dead, .dead, .dead, .dead, .dead, .dead, .dead, .dead], hOf [(1000000000, (.ints .i64 x6q4))], [(.all 1000000000 1), .dead, (.imm (.int .i64 p2)), .dead, (.imm (.fn false p4d p4g)), .dead, .dead, .dead, .dead, .dead, (.imm (.int .i64 x5q3)), (.imm (.int .i64 x5q4)), .dead, .dead, .dead, .dead, .dead, .dead, .dead, .dead, .dead, .dead, .dead, .dead, (.all 1000000000 1), (.imm (.int .i64 p2)), (.imm (.int .i64 x5q3)), (.imm (.int .i64 (IntKind.wrap .i64 (p2 - x5q3)))), (.imm (.int .i64 p2)), (.imm (.int .i64 x5q4)), (.imm (.fn false p4d p4g)), .dead, .dead, .dead, .dead, .dead, .dead, .dead, .dead, .dead, .dead, .dead, .dead, .dead, .dead, .dead, .dead, .dead, .dead, .dead, .dead, .dead, .dead, .dead, .dead, .dead, .dead, .dead, (.tup []), (.all 1000000000 1), (.imm (.int .i64 p1)), (.imm (.int .i64 p2)), (.imm (.int .i64 p3)), (.imm (.fn false p4d p4g)), .dead, .dead, .dead, .dead, .dead, .dead, .dead, .dead, .dead, .dead, .dead, .dead, .dead, (.imm (.int .i64 (halfI p1 p3))), .dead, (.imm (.int .i64 x4q7)), .dead, .dead, .dead, (.imm (.int .i64 (IntKind.wrap .i64 ((IntKind.wrap .i64 ((halfI p1 p3) + p2)) - x4q7)))), .dead, .dead, .dead, .dead, .dead, .dead, .dead, .dead, .dead, .dead, .dead, .dead, .dead, .dead, .dead, .dead, .dead, .dead, .dead, .dead, .dead, .dead, .dead, .dead, .dead, .dead, .dead, .dead, .dead, .dead, .dead, .dead, .dead, .dead, .dead, .dead, .dead, .dead, .dead, .dead, .dead, .dead, .dead, .dead, .dead, .dead, .dead, .dead, .dead, .dead, .dead, .dead, .dead, .dead, .dead, .dead, .dead, .dead, .dead, .dead, .dead, .dead, .dead, .dead, .dead, .dead, .dead, .dead, .dead, .dead, .dead, .dead, .dead, .dead, .dead, .dead, .dead, .dead, .dead, .dead, .dead, .dead, .dead, .dead, .dead, .dead, .dead, .dead, .dead, .dead, .dead, .dead, .dead, .dead, .dead, .dead, .dead, .dead, .dead, .dead, .dead, .dead, .dead, .dead, .dead, .dead, .dead, .dead, .dead, .dead, .dead, .dead, .dead, .dead, .dead, .dead, .dead, .dead, .dead, .dead, .dead, .dead, .dead, .dead, .dead, .dead, .dead, .dead, .dead, .dead, .dead, .dead, .dead, .dead, .dead, .dead, .dead, .dead, .dead, .dead, .dead, .dead, .dead, .dead, .dead, .dead, .dead, .dead, .dead, .dead, .dead, .dead, .dead, .dead, .dead, .dead, .dead, .dead, .dead, .dead, .dead, (.all 1000000000 1), (.imm (.int .i64 x4q7)), (.imm (.int .i64 p2)), (.imm (.int .i64 (IntKind.wrap .i64 ((IntKind.wrap .i64 ((halfI p1 p3) + p2)) - x4q7)))), (.imm (.fn false p4d p4g)), .dead, .dead, .dead, .dead, .dead, .dead, .dead, .dead, .dead, .dead, .dead, .dead, .dead, .dead, .dead, .dead, .dead, .dead, .dead, .dead, .dead, .dead, .dead, .dead, .dead, .dead, .dead, .dead, .dead, (.tup []), (.all 1000000000 1)], []⟩
noncomputable abbrev L7 (fuel n : Nat) (s : St) (k : Kont) := lAt Try.prog X I fuel false 2 false 45 (bodyOf Try.f45) [1, 0] n s k
noncomputable abbrev k7 (n5 : Nat) (fuel : Nat) : Kont := (kAt Try.prog X I fuel false 2 false 45 (bodyOf Try.f45) [1, 0] [] (endFn Try.prog Try.f45 58 (kOp Try.prog X I fuel false 3 44 (cAt (bodyOf Try.f44) [1, 1, 0, 0, 0, 1, 0, 1, 1, 0]) 11 (kAt Try.prog X I fuel false 3 false 44 (bodyOf Try.f44) [1, 1, 0, 0, 0, 1, 0, 1, 1, 0] [n5] (endFn Try.prog Try.f44 220 (kOp Try.prog X I fuel false 4 42 (cAt (bodyOf Try.f42) [1, 1, 1, 1, 1, 1, 1, 1, 1, 0, 1, 0]) 5 (kAt Try.prog X I fuel false 4 false 42 (bodyOf Try.f42) [1, 1, 1, 1, 1, 1, 1, 1, 1, 0, 1, 0] [] (endK Try.prog Try.f42))))))))
noncomputable def t7 (p2 : Int) (x5q3 : Int) (x5q4 : Int) (p4d : List Q → Bool) (p4g : List Q → Int) (p1 : Int) (p3 : Int) (x4q7 : Int) (x7q3 : Int) (x7q4 : List Int) : St := ⟨[(.all 1000000000 1), (.imm (.int .i64 (IntKind.wrap .i64 (p2 - x5q3)))), (.imm (.int .i64 (IntKind.wrap .i64 ((IntKind.wrap .i64 (p2 + x5q4)) - x5q3)))), (.imm (.int .i64 x5q3)), .dead, .dead, .dead, .dead, .dead, .dead, (.imm (.int .i64 x7q3)), .dead, .dead, .dead, .dead, .dead, .dead, .dead, .dead, .dead, .dead, .dead, .dead, .dead, .dead, .dead, .dead, .dead, .dead, .dead, .dead, .dead, .dead, .dead, .dead, .dead, .dead, .dead], hOf [(1000000000, (.ints .i64 x7q4))], [(.all 1000000000 1), .dead, (.imm (.int .i64 p2)), .dead, (.imm (.fn false p4d p4g)), .dead, .dead, .dead, .dead, .dead, (.imm (.int .i64 x5q3)), (.imm (.int .i64 x5q4)), .dead, .dead, .dead, .dead, .dead, .dead, .dead, .dead, .dead, .dead, .dead, .dead, .dead, .dead, .dead, .dead, .dead, .dead, .dead, .dead, .dead, .dead, .dead, (.all 1000000000 1), (.imm (.int .i64 p2)), (.imm (.int .i64 x5q3)), (.imm (.int .i64 (IntKind.wrap .i64 (p2 - x5q3)))), (.imm (.int .i64 p2)), (.imm (.int .i64 x5q4)), (.imm (.int .i64 (IntKind.wrap .i64 (p2 + x5q4)))), (.imm (.int .i64 x5q3)), (.imm (.int .i64 (IntKind.wrap .i64 ((IntKind.wrap .i64 (p2 + x5q4)) - x5q3)))), (.imm (.int .i64 x5q3)), (.imm (.fn false p4d p4g)), .dead, .dead, .dead, .dead, .dead, .dead, .dead, .dead, .dead, .dead, .dead, .dead, (.tup []), (.all 1000000000 1), (.imm (.int .i64 p1)), (.imm (.int .i64 p2)), (.imm (.int .i64 p3)), (.imm (.fn false p4d p4g)), .dead, .dead, .dead, .dead, .dead, .dead, .dead, .dead, .dead, .dead, .dead, .dead, .dead, (.imm (.int .i64 (halfI p1 p3))), .dead, (.imm (.int .i64 x4q7)), .dead, .dead, .dead, (.imm (.int .i64 (IntKind.wrap .i64 ((IntKind.wrap .i64 ((halfI p1 p3) + p2)) - x4q7)))), .dead, .dead, .dead, .dead, .dead, .dead, .dead, .dead, .dead, .dead, .dead, .dead, .dead, .dead, .dead, .dead, .dead, .dead, .dead, .dead, .dead, .dead, .dead, .dead, .dead, .dead, .dead, .dead, .dead, .dead, .dead, .dead, .dead, .dead, .dead, .dead, .dead, .dead, .dead, .dead, .dead, .dead, .dead, .dead, .dead, .dead, .dead, .dead, .dead, .dead, .dead, .dead, .dead, .dead, .dead, .dead, .dead, .dead, .dead, .dead, .dead, .dead, .dead, .dead, .dead, .dead, .dead, .dead, .dead, .dead, .dead, .dead, .dead, .dead, .dead, .dead, .dead, .dead, .dead, .dead, .dead, .dead, .dead, .dead, .dead, .dead, .dead, .dead, .dead, .dead, .dead, .dead, .dead, .dead, .dead, .dead, .dead, .dead, .dead, .dead, .dead, .dead, .dead, .dead, .dead, .dead, .dead, .dead, .dead, .dead, .dead, .dead, .dead, .dead, .dead, .dead, .dead, .dead, .dead, .dead, .dead, .dead, .dead, .dead, .dead, .dead, .dead, .dead, .dead, .dead, .dead, .dead, .dead, .dead, .dead, .dead, .dead, .dead, .dead, .dead, .dead, .dead, .dead, .dead, .dead, .dead, .dead, .dead, .dead, .dead, .dead, .dead, .dead, .dead, .dead, .dead, .dead, .dead, .dead, .dead, .dead, (.all 1000000000 1), (.imm (.int .i64 x4q7)), (.imm (.int .i64 p2)), (.imm (.int .i64 (IntKind.wrap .i64 ((IntKind.wrap .i64 ((halfI p1 p3) + p2)) - x4q7)))), (.imm (.fn false p4d p4g)), .dead, .dead, .dead, .dead, .dead, .dead, .dead, .dead, .dead, .dead, .dead, .dead, .dead, .dead, .dead, .dead, .dead, .dead, .dead, .dead, .dead, .dead, .dead, .dead, .dead, .dead, .dead, .dead, .dead, (.tup []), (.all 1000000000 1)], []⟩
noncomputable abbrev L8 (fuel n : Nat) (s : St) (k : Kont) := lAt Try.prog X I fuel false 2 false 45 (bodyOf Try.f45) [1, 0] n s k
noncomputable abbrev k8  (fuel : Nat) : Kont := (kAt Try.prog X I fuel false 2 false 45 (bodyOf Try.f45) [1, 0] [] (endFn Try.prog Try.f45 58 (kOp Try.prog X I fuel false 3 44 (cAt (bodyOf Try.f44) [1, 1, 1]) 7 (kAt Try.prog X I fuel false 3 false 44 (bodyOf Try.f44) [1, 1, 1] [] (endFn Try.prog Try.f44 220 (kOp Try.prog X I fuel false 4 42 (cAt (bodyOf Try.f42) [1, 1, 1, 1, 1, 1, 1, 1, 1, 0, 1, 0]) 5 (kAt Try.prog X I fuel false 4 false 42 (bodyOf Try.f42) [1, 1, 1, 1, 1, 1, 1, 1, 1, 0, 1, 0] [] (endK Try.prog Try.f42))))))))
noncomputable def t8 (p2 : Int) (x5q3 : Int) (p4d : List Q → Bool) (p4g : List Q → Int) (p1 : Int) (p3 : Int) (x4q7 : Int) (x8q3 : Int) (x8q4 : List Int) : St := ⟨[(.all 1000000000 1), (.imm (.int .i64 (IntKind.wrap .i64 (p2 - x5q3)))), (.imm (.int .i64 p2)), (.imm (.int .i64 x5q3)), .dead, .dead, .dead, .dead, .dead, .dead, (.imm (.int .i64 x8q3)), .dead, .dead, .dead, .dead, .dead, .dead, .dead, .dead, .dead, .dead, .dead, .dead, .dead, .dead, .dead, .dead, .dead, .dead, .dead, .dead, .dead, .dead, .dead, .dead, .dead, .dead, .dead], hOf [(1000000000, (.ints .i64 x8q4))], [(.all 1000000000 1), .dead, (.imm (.int .i64 p2)), .dead, (.imm (.fn false p4d p4g)), .dead, .dead, .dead, .dead, .dead, (.imm (.int .i64 x5q3)), .dead, .dead, .dead, .dead, .dead, .dead, .dead, .dead, .dead, .dead, .dead, .dead, .dead, .dead, .dead, .dead, .dead, .dead, .dead, .dead, .dead, .dead, .dead, .dead, .dead, .dead, .dead, .dead, .dead, .dead, .dead, .dead, .dead, .dead, .dead, .dead, .dead, .dead, .dead, (.all 1000000000 1), (.imm (.int .i64 p2)), (.imm (.int .i64 x5q3)), (.imm (.int .i64 (IntKind.wrap .i64 (p2 - x5q3)))), (.imm (.int .i64 p2)), (.imm (.int .i64 x5q3)), (.imm (.fn false p4d p4g)), .dead, (.tup []), (.all 1000000000 1), (.imm (.int .i64 p1)), (.imm (.int .i64 p2)), (.imm (.int .i64 p3)), (.imm (.fn false p4d p4g)), .dead, .dead, .dead, .dead, .dead, .dead, .dead, .dead, .dead, .dead, .dead, .dead, .dead, (.imm (.int .i64 (halfI p1 p3))), .dead, (.imm (.int .i64 x4q7)), .dead, .dead, .dead, (.imm (.int .i64 (IntKind.wrap .i64 ((IntKind.wrap .i64 ((halfI p1 p3) + p2)) - x4q7)))), .dead, .dead, .dead, .dead, .dead, .dead, .dead, .dead, .dead, .dead, .dead, .dead, .dead, .dead, .dead, .dead, .dead, .dead, .dead, .dead, .dead, .dead, .dead, .dead, .dead, .dead, .dead, .dead, .dead, .dead, .dead, .dead, .dead, .dead, .dead, .dead, .dead, .dead, .dead, .dead, .dead, .dead, .dead, .dead, .dead, .dead, .dead, .dead, .dead, .dead, .dead, .dead, .dead, .dead, .dead, .dead, .dead, .dead, .dead, .dead, .dead, .dead, .dead, .dead, .dead, .dead, .dead, .dead, .dead, .dead, .dead, .dead, .dead, .dead, .dead, .dead, .dead, .dead, .dead, .dead, .dead, .dead, .dead, .dead, .dead, .dead, .dead, .dead, .dead, .dead, .dead, .dead, .dead, .dead, .dead, .dead, .dead, .dead, .dead, .dead, .dead, .dead, .dead, .dead, .dead, .dead, .dead, .dead, .dead, .dead, .dead, .dead, .dead, .dead, .dead, .dead, .dead, .dead, .dead, .dead, .dead, .dead, .dead, .dead, .dead, .dead, .dead, .dead, .dead, .dead, .dead, .dead, .dead, .dead, .dead, .dead, .dead, .dead, .dead, .dead, .dead, .dead, .dead, .dead, .dead, .dead, .dead, .dead, .dead, .dead, .dead, .dead, .dead, .dead, .dead, .dead, .dead, .dead, .dead, .dead, .dead, (.all 1000000000 1), (.imm (.int .i64 x4q7)), (.imm (.int .i64 p2)), (.imm (.int .i64 (IntKind.wrap .i64 ((IntKind.wrap .i64 ((halfI p1 p3) + p2)) - x4q7)))), (.imm (.fn false p4d p4g)), .dead, .dead, .dead, .dead, .dead, .dead, .dead, .dead, .dead, .dead, .dead, .dead, .dead, .dead, .dead, .dead, .dead, .dead, .dead, .dead, .dead, .dead, .dead, .dead, .dead, .dead, .dead, .dead, .dead, (.tup []), (.all 1000000000 1)], []⟩
theorem e (fuel : Nat) (p0 : List Int) (p1 : Int) (p2 : Int) (p3 : Int) (p4d : List Q → Bool) (p4g : List Q → Int) : runF Try.prog X I 4 fuel 42 Try.f42 [.rows true [(.i64, p0)], .d (.int .i64 p1), .d (.int .i64 p2), .d (.int .i64 p3), .d (.fn false p4d p4g)] =
  (bif (((IntKind.wrap .i64 (p2 - p1)) : Int) == 1) then
  L0 fuel fuel (t0 p1 p4d p4g p0 p2 p3) (k0  fuel)
  else
  (bif (((IntKind.wrap .i64 (p3 - p2)) : Int) == 1) then
  L2 fuel fuel (t2 p2 p4d p4g p0 p1 p2) (k2  fuel)
  else
  (bif (decide ((p2 : Int) > (halfI p1 p3))) then
  L4 fuel fuel (t4 p1 p2 p3 p4d p4g p0 ((IntKind.wrap .i64 ((IntKind.wrap .i64 ((halfI p1 p3) + p2)) - p3))) ((halfI p1 p3))) (k4  fuel)
  else
  L4 fuel fuel (t4 p1 p2 p3 p4d p4g p0 p1 p2) (k4  fuel)))) := by kernel_rfl
theorem s0 (fuel n0 : Nat) (p1 : Int) (p4d : List Q → Bool) (p4g : List Q → Int) (p0 : List Int) (x0q3 : Int) (x0q4 : Int) : L0 fuel (n0 + 1) (t0 p1 p4d p4g p0 x0q3 x0q4) (k0  fuel) =
  (bif (decide ((x0q3 : Int) < x0q4)) then
  (idx (halfI x0q3 x0q4) p0.length).bind fun j39 =>
  (p0[j39]?).bind fun v40 =>
  (idx p1 p0.length).bind fun j41 =>
  (p0[j41]?).bind fun v42 =>
  (bif (p4d [Q.i v40, Q.i v42]) then
  (bif (decide (((p4g [Q.i v40, Q.i v42]) : Int) < 0)) then
  L0 fuel n0 (t0 p1 p4d p4g p0 ((IntKind.wrap .i64 ((halfI x0q3 x0q4) + 1))) x0q4) (k0  fuel)
  else
  L0 fuel n0 (t0 p1 p4d p4g p0 x0q3 ((halfI x0q3 x0q4))) (k0  fuel))
  else
  none)
  else
  L1 fuel fuel (t1 x0q3 p1 p0) (k1  fuel)) := by kernel_rfl
theorem s1 (fuel n1 : Nat) (x0q3 : Int) (x1q1 : Int) (x1q2 : List Int) : L1 fuel (n1 + 1) (t1 x0q3 x1q1 x1q2) (k1  fuel) =
  (bif (decide ((x1q1 : Int) < (IntKind.wrap .i64 (x0q3 - 1)))) then
  (idx (IntKind.wrap .i64 (x1q1 + 1)) x1q2.length).bind fun j49 =>
  (x1q2[j49]?).bind fun v50 =>
  (idx x1q1 x1q2.length).bind fun j51 =>
  (x1q2[j51]?).bind fun v52 =>
  (idx x1q1 x1q2.length).bind fun j53 =>
  (bif decide (j53 < x1q2.length) then
  (idx (IntKind.wrap .i64 (x1q1 + 1)) (x1q2.set j53 v50).length).bind fun j54 =>
  (bif decide (j54 < (x1q2.set j53 v50).length) then
  L1 fuel n1 (t1 x0q3 ((IntKind.wrap .i64 (x1q1 + 1))) (((x1q2.set j53 v50).set j54 v52))) (k1  fuel)
  else
  none)
  else
  none)
  else
  some ([], [[(.ints .i64 x1q2)]])) := by kernel_rfl
theorem s2 (fuel n2 : Nat) (p2 : Int) (p4d : List Q → Bool) (p4g : List Q → Int) (p0 : List Int) (x2q3 : Int) (x2q4 : Int) : L2 fuel (n2 + 1) (t2 p2 p4d p4g p0 x2q3 x2q4) (k2  fuel) =
  (bif (decide ((x2q3 : Int) < x2q4)) then
  (idx p2 p0.length).bind fun j93 =>
  (p0[j93]?).bind fun v94 =>
  (idx (halfI x2q3 x2q4) p0.length).bind fun j95 =>
  (p0[j95]?).bind fun v96 =>
  (bif (p4d [Q.i v94, Q.i v96]) then
  (bif (!(decide (((p4g [Q.i v94, Q.i v96]) : Int) < 0))) then
  L2 fuel n2 (t2 p2 p4d p4g p0 ((IntKind.wrap .i64 ((halfI x2q3 x2q4) + 1))) x2q4) (k2  fuel)
  else
  L2 fuel n2 (t2 p2 p4d p4g p0 x2q3 ((halfI x2q3 x2q4))) (k2  fuel))
  else
  none)
  else
  L3 fuel fuel (t3 x2q3 p2 p0) (k3  fuel)) := by kernel_rfl
theorem s3 (fuel n3 : Nat) (x2q3 : Int) (x3q1 : Int) (x3q2 : List Int) : L3 fuel (n3 + 1) (t3 x2q3 x3q1 x3q2) (k3  fuel) =
  (bif (decide ((x3q1 : Int) > x2q3)) then
  (idx (IntKind.wrap .i64 (x3q1 - 1)) x3q2.length).bind fun j103 =>
  (x3q2[j103]?).bind fun v104 =>
  (idx x3q1 x3q2.length).bind fun j105 =>
  (x3q2[j105]?).bind fun v106 =>
  (idx x3q1 x3q2.length).bind fun j107 =>
  (bif decide (j107 < x3q2.length) then
  (idx (IntKind.wrap .i64 (x3q1 - 1)) (x3q2.set j107 v104).length).bind fun j108 =>
  (bif decide (j108 < (x3q2.set j107 v104).length) then
  L3 fuel n3 (t3 x2q3 ((IntKind.wrap .i64 (x3q1 - 1))) (((x3q2.set j107 v104).set j108 v106))) (k3  fuel)
  else
  none)
  else
  none)
  else
  some ([], [[(.ints .i64 x3q2)]])) := by kernel_rfl
theorem s4 (fuel n4 : Nat) (p1 : Int) (p2 : Int) (p3 : Int) (p4d : List Q → Bool) (p4g : List Q → Int) (p0 : List Int) (x4q7 : Int) (x4q8 : Int) : L4 fuel (n4 + 1) (t4 p1 p2 p3 p4d p4g p0 x4q7 x4q8) (k4  fuel) =
  (bif (decide ((x4q7 : Int) < x4q8)) then
  (idx (IntKind.wrap .i64 ((IntKind.wrap .i64 ((IntKind.wrap .i64 ((halfI p1 p3) + p2)) - 1)) - (halfI x4q7 x4q8))) p0.length).bind fun j315 =>
  (p0[j315]?).bind fun v316 =>
  (idx (halfI x4q7 x4q8) p0.length).bind fun j317 =>
  (p0[j317]?).bind fun v318 =>
  (bif (p4d [Q.i v316, Q.i v318]) then
  (bif (!(decide (((p4g [Q.i v316, Q.i v318]) : Int) < 0))) then
  L4 fuel n4 (t4 p1 p2 p3 p4d p4g p0 ((IntKind.wrap .i64 ((halfI x4q7 x4q8) + 1))) x4q8) (k4  fuel)
  else
  L4 fuel n4 (t4 p1 p2 p3 p4d p4g p0 x4q7 ((halfI x4q7 x4q8))) (k4  fuel))
  else
  none)
  else
  (bif (decide ((x4q7 : Int) < p2)) then
  (bif (decide ((p2 : Int) < (IntKind.wrap .i64 ((IntKind.wrap .i64 ((halfI p1 p3) + p2)) - x4q7)))) then
  L5 fuel fuel (t5 p2 p4d p4g p1 p3 x4q7 ((IntKind.wrap .i64 (p2 - x4q7))) ((IntKind.wrap .i64 ((IntKind.wrap .i64 ((IntKind.wrap .i64 ((halfI p1 p3) + p2)) - x4q7)) - p2))) p0) (k5  fuel)
  else
  (tailM ((4 : Nat) : Int) p4d p4g p1 x4q7 (halfI p1 p3) (IntKind.wrap .i64 ((IntKind.wrap .i64 ((halfI p1 p3) + p2)) - x4q7)) p3 p0))
  else
  (tailM ((4 : Nat) : Int) p4d p4g p1 x4q7 (halfI p1 p3) (IntKind.wrap .i64 ((IntKind.wrap .i64 ((halfI p1 p3) + p2)) - x4q7)) p3 p0))) := by kernel_rfl
theorem s5 (fuel n5 : Nat) (p2 : Int) (p4d : List Q → Bool) (p4g : List Q → Int) (p1 : Int) (p3 : Int) (x4q7 : Int) (x5q3 : Int) (x5q4 : Int) (x5q5 : List Int) : L5 fuel (n5 + 1) (t5 p2 p4d p4g p1 p3 x4q7 x5q3 x5q4 x5q5) (k5  fuel) =
  (bif ((x5q3 : Int) != x5q4) then
  (bif (decide ((x5q3 : Int) > x5q4)) then
  L6 fuel fuel (t6 p2 x5q3 x5q4 p4d p4g p1 p3 x4q7 0 x5q5) (k6 n5 fuel)
  else
  L7 fuel fuel (t7 p2 x5q3 x5q4 p4d p4g p1 p3 x4q7 0 x5q5) (k7 n5 fuel))
  else
  L8 fuel fuel (t8 p2 x5q3 p4d p4g p1 p3 x4q7 0 x5q5) (k8  fuel)) := by kernel_rfl
theorem s6 (fuel n5 n6 : Nat) (p2 : Int) (x5q3 : Int) (x5q4 : Int) (p4d : List Q → Bool) (p4g : List Q → Int) (p1 : Int) (p3 : Int) (x4q7 : Int) (x6q3 : Int) (x6q4 : List Int) : L6 fuel (n6 + 1) (t6 p2 x5q3 x5q4 p4d p4g p1 p3 x4q7 x6q3 x6q4) (k6 n5 fuel) =
  (bif (decide ((x6q3 : Int) < x5q4)) then
  (idx (IntKind.wrap .i64 (p2 + x6q3)) x6q4.length).bind fun j361 =>
  (x6q4[j361]?).bind fun v362 =>
  (idx (IntKind.wrap .i64 ((IntKind.wrap .i64 (p2 - x5q3)) + x6q3)) x6q4.length).bind fun j363 =>
  (x6q4[j363]?).bind fun v364 =>
  (idx (IntKind.wrap .i64 ((IntKind.wrap .i64 (p2 - x5q3)) + x6q3)) x6q4.length).bind fun j365 =>
  (bif decide (j365 < x6q4.length) then
  (idx (IntKind.wrap .i64 (p2 + x6q3)) (x6q4.set j365 v362).length).bind fun j366 =>
  (bif decide (j366 < (x6q4.set j365 v362).length) then
  L6 fuel n6 (t6 p2 x5q3 x5q4 p4d p4g p1 p3 x4q7 ((IntKind.wrap .i64 (x6q3 + 1))) (((x6q4.set j365 v362).set j366 v364))) (k6 n5 fuel)
  else
  none)
  else
  none)
  else
  L5 fuel n5 (t5 p2 p4d p4g p1 p3 x4q7 ((IntKind.wrap .i64 (x5q3 - x5q4))) x5q4 x6q4) (k5  fuel)) := by kernel_rfl
theorem s7 (fuel n5 n7 : Nat) (p2 : Int) (x5q3 : Int) (x5q4 : Int) (p4d : List Q → Bool) (p4g : List Q → Int) (p1 : Int) (p3 : Int) (x4q7 : Int) (x7q3 : Int) (x7q4 : List Int) : L7 fuel (n7 + 1) (t7 p2 x5q3 x5q4 p4d p4g p1 p3 x4q7 x7q3 x7q4) (k7 n5 fuel) =
  (bif (decide ((x7q3 : Int) < x5q3)) then
  (idx (IntKind.wrap .i64 ((IntKind.wrap .i64 ((IntKind.wrap .i64 (p2 + x5q4)) - x5q3)) + x7q3)) x7q4.length).bind fun j373 =>
  (x7q4[j373]?).bind fun v374 =>
  (idx (IntKind.wrap .i64 ((IntKind.wrap .i64 (p2 - x5q3)) + x7q3)) x7q4.length).bind fun j375 =>
  (x7q4[j375]?).bind fun v376 =>
  (idx (IntKind.wrap .i64 ((IntKind.wrap .i64 (p2 - x5q3)) + x7q3)) x7q4.length).bind fun j377 =>
  (bif decide (j377 < x7q4.length) then
  (idx (IntKind.wrap .i64 ((IntKind.wrap .i64 ((IntKind.wrap .i64 (p2 + x5q4)) - x5q3)) + x7q3)) (x7q4.set j377 v374).length).bind fun j378 =>
  (bif decide (j378 < (x7q4.set j377 v374).length) then
  L7 fuel n7 (t7 p2 x5q3 x5q4 p4d p4g p1 p3 x4q7 ((IntKind.wrap .i64 (x7q3 + 1))) (((x7q4.set j377 v374).set j378 v376))) (k7 n5 fuel)
  else
  none)
  else
  none)
  else
  L5 fuel n5 (t5 p2 p4d p4g p1 p3 x4q7 x5q3 ((IntKind.wrap .i64 (x5q4 - x5q3))) x7q4) (k5  fuel)) := by kernel_rfl
theorem s8 (fuel n8 : Nat) (p2 : Int) (x5q3 : Int) (p4d : List Q → Bool) (p4g : List Q → Int) (p1 : Int) (p3 : Int) (x4q7 : Int) (x8q3 : Int) (x8q4 : List Int) : L8 fuel (n8 + 1) (t8 p2 x5q3 p4d p4g p1 p3 x4q7 x8q3 x8q4) (k8  fuel) =
  (bif (decide ((x8q3 : Int) < x5q3)) then
  (idx (IntKind.wrap .i64 (p2 + x8q3)) x8q4.length).bind fun j385 =>
  (x8q4[j385]?).bind fun v386 =>
  (idx (IntKind.wrap .i64 ((IntKind.wrap .i64 (p2 - x5q3)) + x8q3)) x8q4.length).bind fun j387 =>
  (x8q4[j387]?).bind fun v388 =>
  (idx (IntKind.wrap .i64 ((IntKind.wrap .i64 (p2 - x5q3)) + x8q3)) x8q4.length).bind fun j389 =>
  (bif decide (j389 < x8q4.length) then
  (idx (IntKind.wrap .i64 (p2 + x8q3)) (x8q4.set j389 v386).length).bind fun j390 =>
  (bif decide (j390 < (x8q4.set j389 v386).length) then
  L8 fuel n8 (t8 p2 x5q3 p4d p4g p1 p3 x4q7 ((IntKind.wrap .i64 (x8q3 + 1))) (((x8q4.set j389 v386).set j390 v388))) (k8  fuel)
  else
  none)
  else
  none)
  else
  (tailM ((4 : Nat) : Int) p4d p4g p1 x4q7 (halfI p1 p3) (IntKind.wrap .i64 ((IntKind.wrap .i64 ((halfI p1 p3) + p2)) - x4q7)) p3 x8q4)) := by kernel_rfl
end smv3
theorem smv3.ok_of (hX : ∀ E ∈ smv3.X, CallSpec Try.prog E) (h : ∀ (xs : List Int) (a : Int) (m : Int) (b : Int) (dom : List Q → Bool) (G : List Q → Int), (decide ((xs : List Int).length ≤ 60) && domA dom xs && mgW G xs a m b && decide (0 ≤ a) && decide (a < m) && decide (m < b) && decide (b - a ≤ 8)) = true → ∃ fuel, runF Try.prog smv3.X smv3.I 4 fuel 42 Try.f42 [.rows true [(.i64, xs)], .d (.int .i64 a), .d (.int .i64 m), .d (.int .i64 b), .d (.fn false dom G)] = some ([], [[(.ints .i64 (segS (ltG G) a.toNat b.toNat xs))]])) : CallSpec Try.prog smv3.E :=
  callSpec_of (d := 4) hX (by kernel_rfl) smv3.I_ok (by kernel_rfl) (by kernel_rfl) (by kernel_rfl) (fun _ _ _ _ h => by dsimp only [smv3.E] at h; cases h) (fun xs hp => by
    dsimp only [smv3.E] at hp ⊢
    split at hp
    · exact h _ _ _ _ _ _ hp
    · cases hp)
theorem smv3.shift {F : Nat} {xs : List Int} {a i : Nat} (hl : xs.length ≤ 60) (hi : a + 1 ≤ i) (hib : i ≤ xs.length) (hF : 200 < F) :
    smv3.L1 F F (smv3.t1 (i : Int) (a : Int) xs) (smv3.k1 F) = some ([], [[(.ints .i64 (shU a (i - 1 - a) xs))]]) := by
  refine run_loop (N := i - 1 - a) (fun n c ys => smv3.L1 F n (smv3.t1 (i : Int) ((a + c : Nat) : Int) ys) (smv3.k1 F)) (fun c ys => ys = shU a c xs) ?_ ?_ F 0 xs (by omega) (by omega) rfl
  · rintro n ys rfl
    rw [smv3.s1, wS (by omega) (by omega), decide_eq_false (by omega)]
    rfl
  · rintro n c ys hc rfl
    have hyl := shU_len a c xs
    refine ⟨_, rfl, ?_⟩
    rw [smv3.s1, wS (x := (i : Int) - 1) (by omega) (by omega), decide_eq_true (by omega), cond_true, w1 (by omega), idx_nat (j := a + c + 1) (by omega), idx_nat (j := a + c) (by omega)]
    simp only [Option.bind_some, getD_get (show a + c + 1 < (shU a c xs).length by omega), getD_get (show a + c < (shU a c xs).length by omega)]
    rw [decide_eq_true (show a + c < (shU a c xs).length by omega), cond_true, List.length_set, idx_nat (j := a + c + 1) (by omega)]
    simp only [Option.bind_some, List.length_set]
    rw [decide_eq_true (show a + c + 1 < (shU a c xs).length by omega), cond_true]
    rfl
theorem smv3.left {F : Nat} {xs : List Int} {a b : Nat} {dom : List Q → Bool} {G : List Q → Int} {da : List Int} (hd : domA dom xs = true) (hlt : ltG G = ltD da) (hl : xs.length ≤ 60) (h : MG da a (a + 1) b xs) (hF : 200 < F) : ∀ (d n i j : Nat), j - i ≤ d → a + 1 ≤ i → i ≤ j → j ≤ b → (i = a + 1 ∨ ltD da (xs.getD (i - 1) 0) (xs.getD a 0) = true) → (j = b ∨ ltD da (xs.getD j 0) (xs.getD a 0) = false) → d < n →
    smv3.L0 F n (smv3.t0 (a : Int) dom G xs (i : Int) (j : Int)) (smv3.k0 F) = some ([], [[(.ints .i64 (segS (ltD da) a b xs))]]) := by
  have hb := h.bl
  have hfin : ∀ n i : Nat, a + 1 ≤ i → i ≤ b → (i = a + 1 ∨ ltD da (xs.getD (i - 1) 0) (xs.getD a 0) = true) → (i = b ∨ ltD da (xs.getD i 0) (xs.getD a 0) = false) → smv3.L0 F (n + 1) (smv3.t0 (a : Int) dom G xs (i : Int) (i : Int)) (smv3.k0 F) = some ([], [[(.ints .i64 (segS (ltD da) a b xs))]]) := by
    intro n i h1 h2 h3 h4
    rw [smv3.s0, decide_eq_false (by omega), cond_false, smv3.shift hl h1 (by omega) hF, mg_left' h h1 h2 h3 h4]
  intro d
  induction d with
  | zero =>
    intro n i j h1 h2 h3 h4 h5 h6 h7
    obtain ⟨n, rfl⟩ : ∃ k, n = k + 1 := ⟨n - 1, by omega⟩
    obtain rfl : i = j := by omega
    exact hfin n i h2 h4 h5 h6
  | succ d ih =>
    intro n i j h1 h2 h3 h4 h5 h6 h7
    obtain ⟨n, rfl⟩ : ∃ k, n = k + 1 := ⟨n - 1, by omega⟩
    by_cases hj : i < j
    · have hh : (i + j) / 2 < xs.length := by omega
      have ha : a < xs.length := by omega
      have hdm := domA_get hd (mem_getD hh) (mem_getD ha)
      have hlx := ltG_at hlt (xs.getD ((i + j) / 2) 0) (xs.getD a 0)
      rw [smv3.s0, decide_eq_true (by omega), cond_true, halfV (by omega), idx_nat hh, idx_nat ha]
      simp only [Option.bind_some, getD_get hh, getD_get ha, hdm, hlx, cond_true]
      cases hc : ltD da (xs.getD ((i + j) / 2) 0) (xs.getD a 0) with
      | true =>
        rw [cond_true, w1 (by omega)]
        exact ih n ((i + j) / 2 + 1) j (by omega) (by omega) (by omega) h4 (.inr (by rw [Nat.add_sub_cancel]; exact hc)) h6 (by omega)
      | false =>
        rw [cond_false]
        exact ih n i ((i + j) / 2) (by omega) h2 (by omega) (by omega) h5 (.inr hc) (by omega)
    · obtain rfl : i = j := by omega
      exact hfin n i h2 h4 h5 h6
theorem smv3.down {F : Nat} {xs : List Int} {m i : Nat} (hl : xs.length ≤ 60) (hi : i ≤ m) (hm : m < xs.length) (hF : 200 < F) :
    smv3.L3 F F (smv3.t3 (i : Int) (m : Int) xs) (smv3.k3 F) = some ([], [[(.ints .i64 (shD m (m - i) xs))]]) := by
  refine run_loop (N := m - i) (fun n c ys => smv3.L3 F n (smv3.t3 (i : Int) ((m - c : Nat) : Int) ys) (smv3.k3 F)) (fun c ys => ys = shD m c xs) ?_ ?_ F 0 xs (by omega) (by omega) rfl
  · rintro n ys rfl
    rw [smv3.s3, decide_eq_false (by omega)]
    rfl
  · rintro n c ys hc rfl
    have hyl := shD_len m c xs
    refine ⟨_, rfl, ?_⟩
    have e1 : IntKind.wrap .i64 (((m - c : Nat) : Int) - 1) = ((m - c - 1 : Nat) : Int) := by rw [wS (by omega) (by omega)]; omega
    rw [smv3.s3, decide_eq_true (by omega), cond_true, e1, idx_nat (j := m - c - 1) (by omega), idx_nat (j := m - c) (by omega)]
    simp only [Option.bind_some, getD_get (show m - c - 1 < (shD m c xs).length by omega), getD_get (show m - c < (shD m c xs).length by omega)]
    rw [decide_eq_true (show m - c < (shD m c xs).length by omega), cond_true, List.length_set, idx_nat (j := m - c - 1) (by omega)]
    simp only [Option.bind_some, List.length_set]
    rw [decide_eq_true (show m - c - 1 < (shD m c xs).length by omega), cond_true, show m - (c + 1) = m - c - 1 by omega]
    rfl
theorem smv3.right {F : Nat} {xs : List Int} {a m : Nat} {dom : List Q → Bool} {G : List Q → Int} {da : List Int} (hd : domA dom xs = true) (hlt : ltG G = ltD da) (hl : xs.length ≤ 60) (h : MG da a m (m + 1) xs) (hF : 200 < F) : ∀ (d n i j : Nat), j - i ≤ d → a ≤ i → i ≤ j → j ≤ m → (i = a ∨ ltD da (xs.getD m 0) (xs.getD (i - 1) 0) = false) → (j = m ∨ ltD da (xs.getD m 0) (xs.getD j 0) = true) → d < n →
    smv3.L2 F n (smv3.t2 (m : Int) dom G xs (i : Int) (j : Int)) (smv3.k2 F) = some ([], [[(.ints .i64 (segS (ltD da) a (m + 1) xs))]]) := by
  have hb := h.bl
  have hfin : ∀ n i : Nat, a ≤ i → i ≤ m → (i = a ∨ ltD da (xs.getD m 0) (xs.getD (i - 1) 0) = false) → (i = m ∨ ltD da (xs.getD m 0) (xs.getD i 0) = true) → smv3.L2 F (n + 1) (smv3.t2 (m : Int) dom G xs (i : Int) (i : Int)) (smv3.k2 F) = some ([], [[(.ints .i64 (segS (ltD da) a (m + 1) xs))]]) := by
    intro n i h1 h2 h3 h4
    rw [smv3.s2, decide_eq_false (by omega), cond_false, smv3.down hl h2 (by omega) hF, mg_right' h h1 h2 h3 h4]
  intro d
  induction d with
  | zero =>
    intro n i j h1 h2 h3 h4 h5 h6 h7
    obtain ⟨n, rfl⟩ : ∃ k, n = k + 1 := ⟨n - 1, by omega⟩
    obtain rfl : i = j := by omega
    exact hfin n i h2 h4 h5 h6
  | succ d ih =>
    intro n i j h1 h2 h3 h4 h5 h6 h7
    obtain ⟨n, rfl⟩ : ∃ k, n = k + 1 := ⟨n - 1, by omega⟩
    by_cases hj : i < j
    · have hh : (i + j) / 2 < xs.length := by omega
      have hm : m < xs.length := by omega
      have hdm := domA_get hd (mem_getD hm) (mem_getD hh)
      have hlx := ltG_at hlt (xs.getD m 0) (xs.getD ((i + j) / 2) 0)
      rw [smv3.s2, decide_eq_true (by omega), cond_true, halfV (by omega), idx_nat hh, idx_nat hm]
      simp only [Option.bind_some, getD_get hh, getD_get hm, hdm, hlx, cond_true]
      cases hc : ltD da (xs.getD m 0) (xs.getD ((i + j) / 2) 0) with
      | false =>
        rw [Bool.not_false, cond_true, w1 (by omega)]
        exact ih n ((i + j) / 2 + 1) j (by omega) (by omega) (by omega) h4 (.inr (by rw [Nat.add_sub_cancel]; exact hc)) h6 (by omega)
      | true =>
        rw [Bool.not_true, cond_false]
        exact ih n i ((i + j) / 2) (by omega) h2 (by omega) (by omega) h5 (.inr hc) (by omega)
    · obtain rfl : i = j := by omega
      exact hfin n i h2 h4 h5 h6
theorem smv3.swap6 {F n5 : Nat} {a s b m i j : Nat} {dom : List Q → Bool} {G : List Q → Int} {ys : List Int} (hl : ys.length ≤ 60) (hi : i ≤ m) (hij : j < i) (hm : m + j ≤ ys.length) (hF : 200 < F) :
    smv3.L6 F F (smv3.t6 (m : Int) (i : Int) (j : Int) dom G (a : Int) (b : Int) (s : Int) 0 ys) (smv3.k6 n5 F) = smv3.L5 F n5 (smv3.t5 (m : Int) dom G (a : Int) (b : Int) (s : Int) ((i - j : Nat) : Int) (j : Int) (swR (m - i) m j ys)) (smv3.k5 F) := by
  refine run_loop (N := j) (fun n c zs => smv3.L6 F n (smv3.t6 (m : Int) (i : Int) (j : Int) dom G (a : Int) (b : Int) (s : Int) (c : Int) zs) (smv3.k6 n5 F)) (fun c zs => zs = swR (m - i) m c ys) ?_ ?_ F 0 ys (by omega) (by omega) rfl
  · rintro n zs rfl
    rw [smv3.s6, decide_eq_false (by omega), cond_false, wSub (by omega) (by omega)]
  · rintro n c zs hc rfl
    have hyl := swR_len (m - i) m c ys
    refine ⟨_, rfl, ?_⟩
    rw [smv3.s6, decide_eq_true (by omega), cond_true, wAdd (a := m) (by omega), wSub hi (by omega), wAdd (a := m - i) (by omega), w1 (by omega), idx_nat (j := m + c) (by omega), idx_nat (j := m - i + c) (by omega)]
    simp only [Option.bind_some, getD_get (show m + c < (swR (m - i) m c ys).length by omega), getD_get (show m - i + c < (swR (m - i) m c ys).length by omega)]
    rw [decide_eq_true (show m - i + c < (swR (m - i) m c ys).length by omega), cond_true, List.length_set, idx_nat (j := m + c) (by omega)]
    simp only [Option.bind_some, List.length_set]
    rw [decide_eq_true (show m + c < (swR (m - i) m c ys).length by omega), cond_true]
    rfl
theorem smv3.swap7 {F n5 : Nat} {a s b m i j : Nat} {dom : List Q → Bool} {G : List Q → Int} {ys : List Int} (hl : ys.length ≤ 60) (hi : i ≤ m) (hij : i < j) (hm : m + j ≤ ys.length) (hF : 200 < F) :
    smv3.L7 F F (smv3.t7 (m : Int) (i : Int) (j : Int) dom G (a : Int) (b : Int) (s : Int) 0 ys) (smv3.k7 n5 F) = smv3.L5 F n5 (smv3.t5 (m : Int) dom G (a : Int) (b : Int) (s : Int) (i : Int) ((j - i : Nat) : Int) (swR (m - i) (m + j - i) i ys)) (smv3.k5 F) := by
  refine run_loop (N := i) (fun n c zs => smv3.L7 F n (smv3.t7 (m : Int) (i : Int) (j : Int) dom G (a : Int) (b : Int) (s : Int) (c : Int) zs) (smv3.k7 n5 F)) (fun c zs => zs = swR (m - i) (m + j - i) c ys) ?_ ?_ F 0 ys (by omega) (by omega) rfl
  · rintro n zs rfl
    rw [smv3.s7, decide_eq_false (by omega), cond_false, wSub (by omega) (by omega)]
  · rintro n c zs hc rfl
    have hyl := swR_len (m - i) (m + j - i) c ys
    refine ⟨_, rfl, ?_⟩
    rw [smv3.s7, decide_eq_true (by omega), cond_true, wAdd (a := m) (b := j) (by omega), wSub (a := m + j) (by omega) (by omega), wAdd (a := m + j - i) (by omega), wSub hi (by omega), wAdd (a := m - i) (by omega), w1 (by omega), idx_nat (j := m + j - i + c) (by omega), idx_nat (j := m - i + c) (by omega)]
    simp only [Option.bind_some, getD_get (show m + j - i + c < (swR (m - i) (m + j - i) c ys).length by omega), getD_get (show m - i + c < (swR (m - i) (m + j - i) c ys).length by omega)]
    rw [decide_eq_true (show m - i + c < (swR (m - i) (m + j - i) c ys).length by omega), cond_true, List.length_set, idx_nat (j := m + j - i + c) (by omega)]
    simp only [Option.bind_some, List.length_set]
    rw [decide_eq_true (show m + j - i + c < (swR (m - i) (m + j - i) c ys).length by omega), cond_true]
    rfl
theorem smv3.swap8 {F : Nat} {a s b m i : Nat} {dom : List Q → Bool} {G : List Q → Int} {ys : List Int} (hl : ys.length ≤ 60) (hi : i ≤ m) (hm : m + i ≤ ys.length) (hF : 200 < F) (ham : a ≤ m) (hb : b ≤ 60) (hs : s ≤ m) :
    smv3.L8 F F (smv3.t8 (m : Int) (i : Int) dom G (a : Int) (b : Int) (s : Int) 0 ys) (smv3.k8 F) = tailM ((4 : Nat) : Int) dom G (a : Int) (s : Int) (((a + b) / 2 : Nat) : Int) (((a + b) / 2 + m - s : Nat) : Int) (b : Int) (swR (m - i) m i ys) := by
  refine run_loop (N := i) (fun n c zs => smv3.L8 F n (smv3.t8 (m : Int) (i : Int) dom G (a : Int) (b : Int) (s : Int) (c : Int) zs) (smv3.k8 F)) (fun c zs => zs = swR (m - i) m c ys) ?_ ?_ F 0 ys (by omega) (by omega) rfl
  · rintro n zs rfl
    rw [smv3.s8, decide_eq_false (by omega), cond_false, halfV (by omega), wAdd (a := (a + b) / 2) (by omega), wSub (a := (a + b) / 2 + m) (by omega) (by omega)]
  · rintro n c zs hc rfl
    have hyl := swR_len (m - i) m c ys
    refine ⟨_, rfl, ?_⟩
    rw [smv3.s8, decide_eq_true (by omega), cond_true, wAdd (a := m) (b := c) (by omega), wSub hi (by omega), wAdd (a := m - i) (by omega), w1 (by omega), idx_nat (j := m + c) (by omega), idx_nat (j := m - i + c) (by omega)]
    simp only [Option.bind_some, getD_get (show m + c < (swR (m - i) m c ys).length by omega), getD_get (show m - i + c < (swR (m - i) m c ys).length by omega)]
    rw [decide_eq_true (show m - i + c < (swR (m - i) m c ys).length by omega), cond_true, List.length_set, idx_nat (j := m + c) (by omega)]
    simp only [Option.bind_some, List.length_set]
    rw [decide_eq_true (show m + c < (swR (m - i) m c ys).length by omega), cond_true]
    rfl
theorem smv3.rot {F : Nat} {a s b m : Nat} {dom : List Q → Bool} {G : List Q → Int} (hF : 200 < F) (ham : a ≤ m) (hb : b ≤ 60) (hs : s ≤ m) : ∀ (d n i j : Nat) (ys : List Int), i + j ≤ d → 0 < i → 0 < j → i ≤ m → m + j ≤ ys.length → ys.length ≤ 60 → d < n →
    smv3.L5 F n (smv3.t5 (m : Int) dom G (a : Int) (b : Int) (s : Int) (i : Int) (j : Int) ys) (smv3.k5 F) = tailM ((4 : Nat) : Int) dom G (a : Int) (s : Int) (((a + b) / 2 : Nat) : Int) (((a + b) / 2 + m - s : Nat) : Int) (b : Int) (rotM (m - i) m (m + j) ys) := by
  intro d
  induction d with
  | zero => intro n i j ys h1 h2; omega
  | succ d ih =>
    intro n i j ys h1 h2 h3 h4 h5 h6 h7
    obtain ⟨n, rfl⟩ : ∃ k, n = k + 1 := ⟨n - 1, by omega⟩
    rw [smv3.s5]
    by_cases e1 : i = j
    · subst e1
      rw [show ((i : Int) != (i : Int)) = false by simp, cond_false, smv3.swap8 h6 h4 h5 hF ham hb hs, rotM_eq h4 h5]
    · rw [show ((i : Int) != (j : Int)) = true by rw [bne_iff_ne]; omega, cond_true]
      by_cases e2 : i > j
      · rw [decide_eq_true (by omega), cond_true, smv3.swap6 h6 h4 e2 h5 hF, rotM_gt h4 e2 h5]
        exact ih n (i - j) j _ (by omega) (by omega) h3 (by omega) (by rw [swR_len]; omega) (by rw [swR_len]; omega) (by omega)
      · rw [decide_eq_false (by omega), cond_false, smv3.swap7 h6 h4 (by omega) h5 hF, rotM_lt h4 (by omega) h5]
        exact ih n i (j - i) _ (by omega) h2 (by omega) h4 (by rw [swR_len]; omega) (by rw [swR_len]; omega) (by omega)
theorem smv3.seek {F : Nat} {xs : List Int} {a m b r0 s0 : Nat} {dom : List Q → Bool} {G : List Q → Int} {da : List Int} (hd : domA dom xs = true) (hlt : ltG G = ltD da) (hl : xs.length ≤ 60) (h : MG da a m b xs) (ham : a + 1 < m) (hmb : m + 1 < b) (hsz : b ≤ a + 8) (hF : 200 < F)
    (hr : (m > (a + b) / 2 ∧ r0 = (a + b) / 2 ∧ s0 + b = (a + b) / 2 + m) ∨ (m ≤ (a + b) / 2 ∧ r0 = m ∧ s0 = a)) : ∀ (d n s r : Nat), r - s ≤ d → s0 ≤ s → s ≤ r → r ≤ r0 → (s = s0 ∨ ltD da (xs.getD ((a + b) / 2 + m - s) 0) (xs.getD (s - 1) 0) = false) → (r = r0 ∨ ltD da (xs.getD ((a + b) / 2 + m - 1 - r) 0) (xs.getD r 0) = true) → d < n →
    smv3.L4 F n (smv3.t4 (a : Int) (m : Int) (b : Int) dom G xs (s : Int) (r : Int)) (smv3.k4 F) = some ([], [[(.ints .i64 (segS (ltD da) a b xs))]]) := by
  have hb := h.bl
  have hfin : ∀ n s : Nat, s0 ≤ s → s ≤ r0 → (s = s0 ∨ ltD da (xs.getD ((a + b) / 2 + m - s) 0) (xs.getD (s - 1) 0) = false) → (s = r0 ∨ ltD da (xs.getD ((a + b) / 2 + m - 1 - s) 0) (xs.getD s 0) = true) → smv3.L4 F (n + 1) (smv3.t4 (a : Int) (m : Int) (b : Int) dom G xs (s : Int) (s : Int)) (smv3.k4 F) = some ([], [[(.ints .i64 (segS (ltD da) a b xs))]]) := by
    intro n s g1 g2 g3 g4
    have c1 : s = a ∨ (a + b) / 2 + m - s = b ∨ lexD da (xs.getD (s - 1) 0) (xs.getD ((a + b) / 2 + m - s) 0) := by
      rcases g3 with g3 | g3
      · omega
      · by_cases e : s = a
        · exact .inl e
        by_cases e' : (a + b) / 2 + m - s = b
        · exact .inr (.inl e')
        exact .inr (.inr (lt_lex' g3 (h.lr _ _ (by omega) (by omega) (by omega) (by omega))))
    have c2 : s = m ∨ (a + b) / 2 + m - s = m ∨ lexD da (xs.getD ((a + b) / 2 + m - s - 1) 0) (xs.getD s 0) := by
      rcases g4 with g4 | g4
      · omega
      · refine .inr (.inr ?_)
        rw [show (a + b) / 2 + m - s - 1 = (a + b) / 2 + m - 1 - s by omega]
        exact lt_lex g4
    obtain ⟨j1, j2, j3⟩ := mg_join (q := (a + b) / 2) (e := (a + b) / 2 + m - s) h (by omega) (by omega) (by omega) (by omega) (by omega) (by omega) (by omega) c1 c2
    have hrl := rotM_len (s := s) (m := m) (e := (a + b) / 2 + m - s) (xs := xs) (by omega) (by omega) (by omega)
    have htail := tail_ok (z := 4) hlt (perm_dom hd (rotM_perm (s := s) (m := m) (e := (a + b) / 2 + m - s) (by omega) (by omega))) (by omega) j1 j2 (by omega) (by omega)
    rw [j3] at htail
    rw [smv3.s4, decide_eq_false (by omega), cond_false, halfV (by omega), wAdd (a := (a + b) / 2) (by omega), wSub (a := (a + b) / 2 + m) (by omega) (by omega)]
    by_cases d1 : s < m
    · rw [decide_eq_true (p := (s : Int) < (m : Int)) (by omega), cond_true]
      by_cases d2 : m < (a + b) / 2 + m - s
      · rw [decide_eq_true (p := (m : Int) < (((a + b) / 2 + m - s : Nat) : Int)) (by omega), cond_true, wSub (a := m) (by omega) (by omega), wSub (a := (a + b) / 2 + m - s) (by omega) (by omega)]
        have := smv3.rot (F := F) (a := a) (s := s) (b := b) (m := m) (dom := dom) (G := G) hF (by omega) (by omega) (by omega) 100 F (m - s) ((a + b) / 2 + m - s - m) xs (by omega) (by omega) (by omega) (by omega) (by omega) hl (by omega)
        rw [show m - (m - s) = s by omega, show m + ((a + b) / 2 + m - s - m) = (a + b) / 2 + m - s by omega] at this
        rw [this]
        exact htail
      · rw [rotM_self (by omega) (by omega) (by omega) (.inr (by omega))] at htail
        rw [decide_eq_false (p := (m : Int) < (((a + b) / 2 + m - s : Nat) : Int)) (by omega), cond_false]
        exact htail
    · rw [rotM_self (by omega) (by omega) (by omega) (.inl (by omega))] at htail
      rw [decide_eq_false (p := (s : Int) < (m : Int)) (by omega), cond_false]
      exact htail
  intro d
  induction d with
  | zero =>
    intro n s r h1 h2 h3 h4 h5 h6 h7
    obtain ⟨n, rfl⟩ : ∃ k, n = k + 1 := ⟨n - 1, by omega⟩
    obtain rfl : s = r := by omega
    exact hfin n s h2 h4 h5 h6
  | succ d ih =>
    intro n s r h1 h2 h3 h4 h5 h6 h7
    obtain ⟨n, rfl⟩ : ∃ k, n = k + 1 := ⟨n - 1, by omega⟩
    by_cases hj : s < r
    · have hh : (s + r) / 2 < xs.length := by omega
      have hp : (a + b) / 2 + m - 1 - (s + r) / 2 < xs.length := by omega
      have hdm := domA_get hd (mem_getD hp) (mem_getD hh)
      have hlx := ltG_at hlt (xs.getD ((a + b) / 2 + m - 1 - (s + r) / 2) 0) (xs.getD ((s + r) / 2) 0)
      rw [smv3.s4, decide_eq_true (by omega), cond_true, halfV (by omega), halfV (by omega), wAdd (by omega), wS (x := (((a + b) / 2 + m : Nat) : Int) - 1) (by omega) (by omega), wS (x := (((a + b) / 2 + m : Nat) : Int) - 1 - (((s + r) / 2 : Nat) : Int)) (by omega) (by omega), show (((a + b) / 2 + m : Nat) : Int) - 1 - (((s + r) / 2 : Nat) : Int) = (((a + b) / 2 + m - 1 - (s + r) / 2 : Nat) : Int) by omega, idx_nat hh, idx_nat hp]
      simp only [Option.bind_some, getD_get hh, getD_get hp, hdm, hlx, cond_true]
      cases hc : ltD da (xs.getD ((a + b) / 2 + m - 1 - (s + r) / 2) 0) (xs.getD ((s + r) / 2) 0) with
      | false =>
        rw [Bool.not_false, cond_true, w1 (by omega)]
        exact ih n ((s + r) / 2 + 1) r (by omega) (by omega) (by omega) h4 (.inr (by rw [Nat.add_sub_cancel, show (a + b) / 2 + m - ((s + r) / 2 + 1) = (a + b) / 2 + m - 1 - (s + r) / 2 by omega]; exact hc)) h6 (by omega)
      | true =>
        rw [Bool.not_true, cond_false]
        exact ih n s ((s + r) / 2) (by omega) h2 (by omega) (by omega) h5 (.inr hc) (by omega)
    · obtain rfl : s = r := by omega
      exact hfin n s h2 h4 h5 h6
theorem smv3.ok : CallSpec Try.prog smv3.E := smv3.ok_of (by simp [smv3.X, smv2.ok]) fun xs a m b dom G h => by
  obtain ⟨F, hF⟩ : ∃ F : Nat, 200 < F := ⟨201, by omega⟩
  refine ⟨F, ?_⟩
  simp only [Bool.and_eq_true, decide_eq_true_eq] at h
  obtain ⟨⟨⟨⟨⟨⟨hl, hd⟩, hu⟩, h0⟩, h1⟩, h2⟩, h4⟩ := h
  obtain ⟨a, rfl⟩ : ∃ n : Nat, a = n := ⟨a.toNat, by omega⟩
  obtain ⟨m, rfl⟩ : ∃ n : Nat, m = n := ⟨m.toNat, by omega⟩
  obtain ⟨b, rfl⟩ : ∃ n : Nat, b = n := ⟨b.toNat, by omega⟩
  obtain ⟨da, hlt, hm⟩ := mgW_inv hu
  have hb := hm.bl
  rw [smv3.e, wS (x := (m : Int) - (a : Int)) (by omega) (by omega), wS (x := (b : Int) - (m : Int)) (by omega) (by omega), Int.toNat_natCast, Int.toNat_natCast, hlt]
  by_cases e1 : m = a + 1
  · subst e1
    rw [show ((((a + 1 : Nat) : Int) - (a : Int)) == 1) = true from beq_iff_eq.2 (by omega), cond_true]
    exact smv3.left hd hlt hl hm hF 100 F (a + 1) b (by omega) (by omega) (by omega) (by omega) (.inl rfl) (.inl rfl) (by omega)
  rw [show (((m : Int) - (a : Int)) == 1) = false from beq_eq_false_iff_ne.2 (by omega), cond_false]
  by_cases e2 : b = m + 1
  · subst e2
    rw [show ((((m + 1 : Nat) : Int) - (m : Int)) == 1) = true from beq_iff_eq.2 (by omega), cond_true]
    exact smv3.right hd hlt hl hm hF 100 F a m (by omega) (by omega) (by omega) (by omega) (.inl rfl) (.inl rfl) (by omega)
  rw [show (((b : Int) - (m : Int)) == 1) = false from beq_eq_false_iff_ne.2 (by omega), cond_false]
  rw [halfV (by omega)]
  by_cases e3 : m > (a + b) / 2
  · rw [decide_eq_true (by omega), cond_true, wAdd (by omega), wSub (a := (a + b) / 2 + m) (by omega) (by omega)]
    exact smv3.seek (s0 := (a + b) / 2 + m - b) hd hlt hl hm (by omega) (by omega) (by omega) hF (.inl ⟨e3, rfl, by omega⟩) 100 F _ _ (by omega) (by omega) (by omega) (by omega) (.inl rfl) (.inl rfl) (by omega)
  · rw [decide_eq_false (by omega), cond_false]
    exact smv3.seek (s0 := a) hd hlt hl hm (by omega) (by omega) (by omega) hF (.inr ⟨by omega, rfl, rfl⟩) 100 F _ _ (by omega) (by omega) (by omega) (by omega) (.inl rfl) (.inl rfl) (by omega)

namespace smv4
noncomputable def E : Entry := ⟨42, false, true, fun | [.rows true [(.i64, xs)], .d (.int .i64 a), .d (.int .i64 m), .d (.int .i64 b), .d (.fn false dom G)] => decide ((xs : List Int).length ≤ 60) && domA dom xs && mgW G xs a m b && decide (0 ≤ a) && decide (a < m) && decide (m < b) && decide (b - a ≤ 16) | _ => false, fun | [.rows true [(.i64, xs)], .d (.int .i64 a), .d (.int .i64 m), .d (.int .i64 b), .d (.fn false dom G)] => ([], [[(.ints .i64 (segS (ltG G) a.toNat b.toNat xs))]]) | _ => ([], []), fun _ => [], false, fun _ => none⟩
end smv4
namespace smv4
noncomputable def X : List Entry := [smv3.E]
noncomputable def I : List Inl := [⟨42, Try.f42, ⟨[], [(40, [5, 6, 7, 8, 9, 10, 11, 12, 13, 14, 15, 16, 17, 19, 21, 22, 23, 25, 26, 27, 28, 29, 30, 31, 32, 33, 34, 35, 36, 37, 38, 39, 40, 41, 42, 43, 44, 45, 46, 47, 48, 49, 50, 51, 52, 53, 54, 55, 56, 57, 58, 59, 60, 61, 62, 63, 64, 65, 66, 67, 68, 69, 70, 71, 72, 73, 74, 75, 76, 77, 78, 79, 80, 81, 82, 83, 84, 85, 86, 87, 88, 89, 90, 91, 92, 93, 94, 95, 96, 97, 98, 99, 100, 101, 102, 103, 104, 105, 106, 107, 108, 109, 110, 111, 112, 113, 114, 115, 116, 117, 118, 119, 120, 121, 122, 123, 124, 125, 126, 127, 128, 129, 130, 131, 132, 133, 134, 135, 136, 137, 138, 139, 140, 141, 142, 143, 144, 145, 146, 147, 148, 149, 150, 151, 152, 153, 154, 155, 156, 157, 158, 159, 160, 161, 162, 163, 164, 165, 166, 167, 168, 169, 170, 171, 172, 173, 174, 175, 176, 177, 178, 179, 180, 181, 182, 183, 184, 185, 186, 187, 188, 189, 190, 191, 192, 193, 194, 195, 196, 197, 198, 199, 200, 201, 202, 203, 204, 205, 206, 207, 208, 209, 210, 211, 212, 213, 214, 215, 216, 217, 218, 219]), (1000003, [2, 3, 5, 6, 7, 8, 9, 12, 13, 14, 15, 16, 17, 18, 19, 20, 21, 22, 23, 24, 25, 26, 27, 28, 29, 30, 31, 32, 33, 34, 35, 36, 37, 38, 39, 40, 41, 42, 43, 44, 45, 46, 47, 48, 49, 50, 51, 52, 53, 54, 55, 56, 57, 58, 59, 60, 61, 62, 63, 64, 65, 66, 67, 68, 69, 70, 71, 72, 73, 74, 75, 76, 77, 78, 79, 80, 81, 82, 83, 84, 85, 86, 87, 88, 89, 90, 91, 92, 93, 94, 95, 96, 97, 98, 99, 100, 101, 102, 103, 104, 105, 106, 107, 108, 109, 110, 111, 112, 113, 114, 115, 116, 117, 118, 119, 120, 121, 122, 123, 124, 125, 126, 127, 128, 129, 130, 131, 132, 133, 134, 135, 136, 137, 138, 139, 140, 141, 142, 143, 144, 145, 146, 147, 148, 149, 150, 151, 152, 153, 154, 155, 156, 157, 158, 159, 160, 161, 162, 163, 164, 165, 166, 167, 168, 169, 170, 171, 172, 173, 174, 175, 176, 177, 178, 179, 180, 181, 182, 183, 184, 185, 186, 187, 188, 189, 190, 191, 192, 193, 194, 195, 196, 197, 198, 199, 200, 201, 202, 203, 204, 205, 206, 207, 208, 209, 210, 211, 212, 213, 214, 215, 216, 217, 218, 219]), (1000009, [1, 2, 3, 4, 5, 6, 7, 8, 9, 11, 12, 14, 15, 16, 17, 18, 19, 20, 21, 22, 23, 24, 25, 26, 27, 28, 29, 30, 31, 32, 33, 34, 35, 36, 37, 38, 39, 40, 41, 42, 43, 44, 45, 46, 47, 48, 49, 50, 51, 52, 53, 54, 55, 56, 57, 58, 59, 60, 61, 62, 63, 64, 65, 66, 67, 68, 69, 70, 71, 72, 73, 74, 75, 76, 77, 78, 79, 80, 81, 82, 83, 84, 85, 86, 87, 88, 89, 90, 91, 92, 93, 94, 95, 96, 97, 98, 99, 100, 101, 102, 103, 104, 105, 106, 107, 108, 109, 110, 111, 112, 113, 114, 115, 116, 117, 118, 119, 120, 121, 122, 123, 124, 125, 126, 127, 128, 129, 130, 131, 132, 133, 134, 135, 136, 137, 138, 139, 140, 141, 142, 143, 144, 145, 146, 147, 148, 149, 150, 151, 152, 153, 154, 155, 156, 157, 158, 159, 160, 161, 162, 163, 164, 165, 166, 167, 168, 169, 170, 171, 172, 173, 174, 175, 176, 177, 178, 179, 180, 181, 182, 183, 184, 185, 186, 187, 188, 189, 190, 191, 192, 193, 194, 195, 196, 197, 198, 199, 200, 201, 202, 203, 204, 205, 206, 207, 208, 209, 210, 211, 212, 213, 214, 215, 216, 217, 218, 219]), (1000015, [1, 3, 5, 6, 7, 8, 9, 10, 11, 12, 13, 16, 17, 18, 19, 20, 21, 22, 23, 24, 25, 26, 27, 28, 29, 30, 31, 32, 33, 34, 35, 36, 37, 38, 39, 40, 41, 42, 43, 44, 45, 46, 47, 48, 49, 50, 51, 52, 53, 54, 55, 56, 57, 58, 59, 60, 61, 62, 63, 64, 65, 66, 67, 68, 69, 70, 71, 72, 73, 74, 75, 76, 77, 78, 79, 80, 81, 82, 83, 84, 85, 86, 87, 88, 89, 90, 91, 92, 93, 94, 95, 96, 97, 98, 99, 100, 101, 102, 103, 104, 105, 106, 107, 108, 109, 110, 111, 112, 113, 114, 115, 116, 117, 118, 119, 120, 121, 122, 123, 124, 125, 126, 127, 128, 129, 130, 131, 132, 133, 134, 135, 136, 137, 138, 139, 140, 141, 142, 143, 144, 145, 146, 147, 148, 149, 150, 151, 152, 153, 154, 155, 156, 157, 158, 159, 160, 161, 162, 163, 164, 165, 166, 167, 168, 169, 170, 171, 172, 173, 174, 175, 176, 177, 178, 179, 180, 181, 182, 183, 184, 185, 186, 187, 188, 189, 190, 191, 192, 193, 194, 195, 196, 197, 198, 199, 200, 201, 202, 203, 204, 205, 206, 207, 208, 209, 210, 211, 212, 213, 214, 215, 216, 217, 218, 219]), (1000021, [1, 2, 3, 4, 5, 6, 7, 8, 9, 10, 11, 12, 13, 15, 16, 18, 19, 20, 21, 22, 23, 24, 25, 26, 27, 28, 29, 30, 31, 32, 33, 34, 35, 36, 37, 38, 39, 40, 41, 42, 43, 44, 45, 46, 47, 48, 49, 50, 51, 52, 53, 54, 55, 56, 57, 58, 59, 60, 61, 62, 63, 64, 65, 66, 67, 68, 69, 70, 71, 72, 73, 74, 75, 76, 77, 78, 79, 80, 81, 82, 83, 84, 85, 86, 87, 88, 89, 90, 91, 92, 93, 94, 95, 96, 97, 98, 99, 100, 101, 102, 103, 104, 105, 106, 107, 108, 109, 110, 111, 112, 113, 114, 115, 116, 117, 118, 119, 120, 121, 122, 123, 124, 125, 126, 127, 128, 129, 130, 131, 132, 133, 134, 135, 136, 137, 138, 139, 140, 141, 142, 143, 144, 145, 146, 147, 148, 149, 150, 151, 152, 153, 154, 155, 156, 157, 158, 159, 160, 161, 162, 163, 164, 165, 166, 167, 168, 169, 170, 171, 172, 173, 174, 175, 176, 177, 178, 179, 180, 181, 182, 183, 184, 185, 186, 187, 188, 189, 190, 191, 192, 193, 194, 195, 196, 197, 198, 199, 200, 201, 202, 203, 204, 205, 206, 207, 208, 209, 210, 211, 212, 213, 214, 215, 216, 217, 218, 219]), (1000033, [5, 6, 7, 8, 9, 10, 11, 12, 13, 14, 15, 16, 17, 23, 24, 25, 26, 27, 28, 29, 30, 31, 32, 33, 34, 35, 36, 37, 38, 39, 40, 41, 42, 43, 44, 45, 46, 47, 48, 49, 50, 51, 52, 53, 54, 55, 56, 57, 58, 59, 60, 61, 62, 63, 64, 65, 66, 67, 68, 69, 70, 71, 72, 73, 74, 75, 76, 77, 78, 79, 80, 81, 82, 83, 84, 85, 86, 87, 88, 89, 90, 91, 92, 93, 94, 95, 96, 97, 98, 99, 100, 101, 102, 103, 104, 105, 106, 107, 108, 109, 110, 111, 112, 113, 114, 115, 116, 117, 118, 119, 120, 121, 122, 123, 124, 125, 126, 127, 128, 129, 130, 131, 132, 133, 134, 135, 136, 137, 138, 139, 140, 141, 142, 143, 144, 145, 146, 147, 148, 149, 150, 151, 152, 153, 154, 155, 156, 157, 158, 159, 160, 161, 162, 163, 164, 165, 166, 167, 168, 169, 170, 171, 172, 173, 174, 175, 176, 177, 178, 179, 180, 181, 182, 183, 184, 185, 186, 187, 188, 189, 190, 191, 192, 193, 194, 195, 196, 197, 198, 199, 200, 201, 202, 203, 204, 205, 206, 207, 208, 209, 210, 211, 212, 213, 214, 215, 216, 217, 218, 219])], [], [(5, [0, 1, 2, 5, 6, 3, 4, 7, 8, 9, 10]), (11, [0, 1, 2, 3, 4, 5, 6, 7, 10, 11, 8, 9, 12, 13, 14, 15, 16, 17]), (17, [0, 1, 2, 5, 6, 3, 4, 7, 8, 9, 10, 11]), (23, [0, 1, 2, 3, 4, 5, 6, 7, 10, 11, 8, 9, 12, 13, 14, 15, 16, 17]), (35, [0, 1, 2, 3, 4, 7, 8, 5, 6, 9, 10, 11, 12, 13])], [], []⟩⟩, ⟨44, Try.f44, ⟨[], [(4, [1, 3, 5, 6, 7, 8, 9, 12, 13, 14, 15, 16, 17, 18, 19, 20, 21, 22, 23, 24, 25, 26, 27, 28, 29, 30, 31, 32, 33, 34, 35, 36, 37, 38, 39, 40, 41, 42, 43, 44, 45, 46, 47, 48, 49, 50, 51, 52, 53, 54, 55, 56, 57]), (6, [1, 3, 5, 6, 7, 8, 9, 12, 13, 14, 15, 16, 17, 18, 19, 20, 21, 22, 23, 24, 25, 26, 27, 28, 29, 30, 31, 32, 33, 34, 35, 36, 37, 38, 39, 40, 41, 42, 43, 44, 45, 46, 47, 48, 49, 50, 51, 52, 53, 54, 55, 56, 57]), (8, [1, 3, 5, 6, 7, 8, 9, 11, 12, 13, 14, 15, 16, 17, 18, 19, 20, 21, 22, 23, 24, 25, 26, 27, 28, 29, 30, 31, 32, 33, 34, 35, 36, 37, 38, 39, 40, 41, 42, 43, 44, 45, 46, 47, 48, 49, 50, 51, 52, 53, 54, 55, 56, 57]), (1000002, [1, 3, 5, 6, 7, 8, 9, 12, 13, 14, 15, 16, 17, 18, 19, 20, 21, 22, 23, 24, 25, 26, 27, 28, 29, 30, 31, 32, 33, 34, 35, 36, 37, 38, 39, 40, 41, 42, 43, 44, 45, 46, 47, 48, 49, 50, 51, 52, 53, 54, 55, 56, 57])], [], [], [], []⟩⟩, ⟨45, Try.f45, ⟨[], [(1000001, [4, 5, 6, 7, 8, 9, 11, 12, 13, 14, 15, 16, 17, 18, 19, 20, 21, 22, 23, 24, 25, 26, 27, 28, 29, 30, 31, 32, 33, 34, 35, 36, 37])], [], [(3, [0, 1, 2, 3, 4, 5, 6, 7, 8, 9, 10, 11, 14, 15, 16, 17, 12, 13, 18, 19, 20, 21, 22, 23])], [], []⟩⟩]
theorem I_ok : ∀ i ∈ I, Try.prog.funcs[i.f]? = some i.fn ∧ (i.fn.name == "runtime.NumGoroutine") = false := by
  intro i hi
  simp only [I, List.mem_cons, List.not_mem_nil, or_false] at hi
  rcases hi with rfl | rfl | rfl
  all_goals exact ⟨by kernel_rfl, by kernel_rfl⟩
noncomputable abbrev L0 (fuel n : Nat) (s : St) (k : Kont) := lAt Try.prog X I fuel false 4 false 42 (bodyOf Try.f42) [0, 1, 0, 1, 1, 0, 0] n s k
noncomputable abbrev k0  (fuel : Nat) : Kont := (kAt Try.prog X I fuel false 4 false 42 (bodyOf Try.f42) [0, 1, 0, 1, 1, 0, 0] [] (endK Try.prog Try.f42))
noncomputable def t0 (p1 : Int) (p4d : List Q → Bool) (p4g : List Q → Int) (p0 : List Int) (x0q3 : Int) (x0q4 : Int) : St := ⟨[(.all 1000000000 1), (.imm (.int .i64 p1)), .dead, .dead, (.imm (.fn false p4d p4g)), .dead, .dead, .dead, .dead, .dead, (.imm (.int .i64 x0q3)), (.imm (.int .i64 x0q4)), .dead, .dead, .dead, .dead, .dead, .dead, .dead, .dead, .dead, .dead, .dead, .dead, .dead, .dead, .dead, .dead, .dead, .dead, .dead, .dead, .dead, .dead, .dead, .dead, .dead, .dead, .dead, .dead, .dead, .dead, .dead, .dead, .dead, .dead, .dead, .dead, .dead, .dead, .dead, .dead, .dead, .dead, .dead, .dead, .dead, .dead, .dead, .dead, .dead, .dead, .dead, .dead, .dead, .dead, .dead, .dead, .dead, .dead, .dead, .dead, .dead, .dead, .dead, .dead, .dead, .dead, .dead, .dead, .dead, .dead, .dead, .dead, .dead, .dead, .dead, .dead, .dead, .dead, .dead, .dead, .dead, .dead, .dead, .dead, .dead, .dead, .dead, .dead, .dead, .dead, .dead, .dead, .dead, .dead, .dead, .dead, .dead, .dead, .dead, .dead, .dead, .dead, .dead, .dead, .dead, .dead, .dead, .dead, .dead, .dead, .dead, .dead, .dead, .dead, .dead, .dead, .dead, .dead, .dead, .dead, .dead, .dead, .dead, .dead, .dead, .dead, .dead, .dead, .dead, .dead, .dead, .dead, .dead, .dead, .dead, .dead, .dead, .dead, .dead, .dead, .dead, .dead, .dead, .dead, .dead, .dead, .dead, .dead, .dead, .dead, .dead, .dead, .dead, .dead, .dead, .dead, .dead, .dead, .dead, .dead, .dead, .dead, .dead, .dead, .dead, .dead, .dead, .dead, .dead, .dead, .dead, .dead, .dead, .dead, .dead, .dead, .dead, .dead, .dead, .dead, .dead, .dead, .dead, .dead, .dead, .dead, .dead, .dead, .dead, .dead, .dead, .dead, .dead, .dead, .dead, .dead, .dead, .dead, .dead, .dead, .dead, .dead, .dead, .dead, .dead, .dead, .dead, .dead], hOf [(1000000000, (.ints .i64 p0))], [(.all 1000000000 1)], []⟩
noncomputable abbrev L1 (fuel n : Nat) (s : St) (k : Kont) := lAt Try.prog X I fuel false 4 false 42 (bodyOf Try.f42) [0, 1, 0, 1, 1, 1, 0, 1, 0] n s k
noncomputable abbrev k1  (fuel : Nat) : Kont := (kAt Try.prog X I fuel false 4 false 42 (bodyOf Try.f42) [0, 1, 0, 1, 1, 1, 0, 1, 0] [] (endK Try.prog Try.f42))
noncomputable def t1 (x0q3 : Int) (x1q1 : Int) (x1q2 : List Int) : St := ⟨[(.all 1000000000 1), .dead, .dead, .dead, .dead, .dead, .dead, .dead, .dead, .dead, (.imm (.int .i64 x0q3)), .dead, .dead, (.imm (.int .i64 x1q1)), .dead, .dead, .dead, .dead, .dead, .dead, .dead, .dead, .dead, .dead, .dead, .dead, .dead, .dead, .dead, .dead, .dead, .dead, .dead, .dead, .dead, .dead, .dead, .dead, .dead, .dead, .dead, .dead, .dead, .dead, .dead, .dead, .dead, .dead, .dead, .dead, .dead, .dead, .dead, .dead, .dead, .dead, .dead, .dead, .dead, .dead, .dead, .dead, .dead, .dead, .dead, .dead, .dead, .dead, .dead, .dead, .dead, .dead, .dead, .dead, .dead, .dead, .dead, .dead, .dead, .dead, .dead, .dead, .dead, .dead, .dead, .dead, .dead, .dead, .dead, .dead, .dead, .dead, .dead, .dead, .dead, .dead, .dead, .dead, .dead, .dead, .dead, .dead, .dead, .dead, .dead, .dead, .dead, .dead, .dead, .dead, .dead, .dead, .dead, .dead, .dead, .dead, .dead, .dead, .dead, .dead, .dead, .dead, .dead, .dead, .dead, .dead, .dead, .dead, .dead, .dead, .dead, .dead, .dead, .dead, .dead, .dead, .dead, .dead, .dead, .dead, .dead, .dead, .dead, .dead, .dead, .dead, .dead, .dead, .dead, .dead, .dead, .dead, .dead, .dead, .dead, .dead, .dead, .dead, .dead, .dead, .dead, .dead, .dead, .dead, .dead, .dead, .dead, .dead, .dead, .dead, .dead, .dead, .dead, .dead, .dead, .dead, .dead, .dead, .dead, .dead, .dead, .dead, .dead, .dead, .dead, .dead, .dead, .dead, .dead, .dead, .dead, .dead, .dead, .dead, .dead, .dead, .dead, .dead, .dead, .dead, .dead, .dead, .dead, .dead, .dead, .dead, .dead, .dead, .dead, .dead, .dead, .dead, .dead, .dead, .dead, .dead, .dead, .dead, .dead, .dead], hOf [(1000000000, (.ints .i64 x1q2))], [(.all 1000000000 1)], []⟩
noncomputable abbrev L2 (fuel n : Nat) (s : St) (k : Kont) := lAt Try.prog X I fuel false 4 false 42 (bodyOf Try.f42) [1, 0, 1, 0, 1, 1, 0, 0] n s k
noncomputable abbrev k2  (fuel : Nat) : Kont := (kAt Try.prog X I fuel false 4 false 42 (bodyOf Try.f42) [1, 0, 1, 0, 1, 1, 0, 0] [] (endK Try.prog Try.f42))
noncomputable def t2 (p2 : Int) (p4d : List Q → Bool) (p4g : List Q → Int) (p0 : List Int) (x2q3 : Int) (x2q4 : Int) : St := ⟨[(.all 1000000000 1), .dead, (.imm (.int .i64 p2)), .dead, (.imm (.fn false p4d p4g)), .dead, .dead, .dead, .dead, .dead, .dead, .dead, .dead, .dead, (.imm (.int .i64 x2q3)), (.imm (.int .i64 x2q4)), .dead, .dead, .dead, .dead, .dead, .dead, .dead, .dead, .dead, .dead, .dead, .dead, .dead, .dead, .dead, .dead, .dead, .dead, .dead, .dead, .dead, .dead, .dead, .dead, .dead, .dead, .dead, .dead, .dead, .dead, .dead, .dead, .dead, .dead, .dead, .dead, .dead, .dead, .dead, .dead, .dead, .dead, .dead, .dead, .dead, .dead, .dead, .dead, .dead, .dead, .dead, .dead, .dead, .dead, .dead, .dead, .dead, .dead, .dead, .dead, .dead, .dead, .dead, .dead, .dead, .dead, .dead, .dead, .dead, .dead, .dead, .dead, .dead, .dead, .dead, .dead, .dead, .dead, .dead, .dead, .dead, .dead, .dead, .dead, .dead, .dead, .dead, .dead, .dead, .dead, .dead, .dead, .dead, .dead, .dead, .dead, .dead, .dead, .dead, .dead, .dead, .dead, .dead, .dead, .dead, .dead, .dead, .dead, .dead, .dead, .dead, .dead, .dead, .dead, .dead, .dead, .dead, .dead, .dead, .dead, .dead, .dead, .dead, .dead, .dead, .dead, .dead, .dead, .dead, .dead, .dead, .dead, .dead, .dead, .dead, .dead, .dead, .dead, .dead, .dead, .dead, .dead, .dead, .dead, .dead, .dead, .dead, .dead, .dead, .dead, .dead, .dead, .dead, .dead, .dead, .dead, .dead, .dead, .dead, .dead, .dead, .dead, .dead, .dead, .dead, .dead, .dead, .dead, .dead, .dead, .dead, .dead, .dead, .dead, .dead, .dead, .dead, .dead, .dead, .dead, .dead, .dead, .dead, .dead, .dead, .dead, .dead, .dead, .dead, .dead, .dead, .dead, .dead, .dead, .dead, .dead, .dead, .dead, .dead, .dead, .dead, .dead, .dead, .dead], hOf [(1000000000, (.ints .i64 p0))], [(.all 1000000000 1)], []⟩
noncomputable abbrev L3 (fuel n : Nat) (s : St) (k : Kont) := lAt Try.prog X I fuel false 4 false 42 (bodyOf Try.f42) [1, 0, 1, 0, 1, 1, 1, 0, 1, 0] n s k
noncomputable abbrev k3  (fuel : Nat) : Kont := (kAt Try.prog X I fuel false 4 false 42 (bodyOf Try.f42) [1, 0, 1, 0, 1, 1, 1, 0, 1, 0] [] (endK Try.prog Try.f42))
noncomputable def t3 (x2q3 : Int) (x3q1 : Int) (x3q2 : List Int) : St := ⟨[(.all 1000000000 1), .dead, .dead, .dead, .dead, .dead, .dead, .dead, .dead, .dead, .dead, .dead, .dead, .dead, (.imm (.int .i64 x2q3)), .dead, .dead, (.imm (.int .i64 x3q1)), .dead, .dead, .dead, .dead, .dead, .dead, .dead, .dead, .dead, .dead, .dead, .dead, .dead, .dead, .dead, .dead, .dead, .dead, .dead, .dead, .dead, .dead, .dead, .dead, .dead, .dead, .dead, .dead, .dead, .dead, .dead, .dead, .dead, .dead, .dead, .dead, .dead, .dead, .dead, .dead, .dead, .dead, .dead, .dead, .dead, .dead, .dead, .dead, .dead, .dead, .dead, .dead, .dead, .dead, .dead, .dead, .dead, .dead, .dead, .dead, .dead, .dead, .dead, .dead, .dead, .dead, .dead, .dead, .dead, .dead, .dead, .dead, .dead, .dead, .dead, .dead, .dead, .dead, .dead, .dead, .dead, .dead, .dead, .dead, .dead, .dead, .dead, .dead, .dead, .dead, .dead, .dead, .dead, .dead, .dead, .dead, .dead, .dead, .dead, .dead, .dead, .dead, .dead, .dead, .dead, .dead, .dead, .dead, .dead, .dead, .dead, .dead, .dead, .dead, .dead, .dead, .dead, .dead, .dead, .dead, .dead, .dead, .dead, .dead, .dead, .dead, .dead, .dead, .dead, .dead, .dead, .dead, .dead, .dead, .dead, .dead, .dead, .dead, .dead, .dead, .dead, .dead, .dead, .dead, .dead, .dead, .dead, .dead, .dead, .dead, .dead, .dead, .dead, .dead, .dead, .dead, .dead, .dead, .dead, .dead, .dead, .dead, .dead, .dead, .dead, .dead, .dead, .dead, .dead, .dead, .dead, .dead, .dead, .dead, .dead, .dead, .dead, .dead, .dead, .dead, .dead, .dead, .dead, .dead, .dead, .dead, .dead, .dead, .dead, .dead, .dead, .dead, .dead, .dead, .dead, .dead, .dead, .dead, .dead, .dead, .dead, .dead], hOf [(1000000000, (.ints .i64 x3q2))], [(.all 1000000000 1)], []⟩
noncomputable abbrev L4 (fuel n : Nat) (s : St) (k : Kont) := lAt Try.prog X I fuel false 4 false 42 (bodyOf Try.f42) [1, 1, 1, 1, 1, 1, 1, 0, 0] n s k
noncomputable abbrev k4  (fuel : Nat) : Kont := (kAt Try.prog X I fuel false 4 false 42 (bodyOf Try.f42) [1, 1, 1, 1, 1, 1, 1, 0, 0] [] (endK Try.prog Try.f42))
noncomputable def t4 (p1 : Int) (p2 : Int) (p3 : Int) (p4d : List Q → Bool) (p4g : List Q → Int) (p0 : List Int) (x4q7 : Int) (x4q8 : Int) : St := ⟨[(.all 1000000000 1), (.imm (.int .i64 p1)), (.imm (.int .i64 p2)), (.imm (.int .i64 p3)), (.imm (.fn false p4d p4g)), .dead, .dead, .dead, .dead, .dead, .dead, .dead, .dead, .dead, .dead, .dead, .dead, .dead, (.imm (.int .i64 (halfI p1 p3))), (.imm (.int .i64 (IntKind.wrap .i64 ((halfI p1 p3) + p2)))), (.imm (.int .i64 x4q7)), (.imm (.int .i64 x4q8)), (.imm (.int .i64 (IntKind.wrap .i64 ((IntKind.wrap .i64 ((halfI p1 p3) + p2)) - 1)))), .dead, .dead, .dead, .dead, .dead, .dead, .dead, .dead, .dead, .dead, .dead, .dead, .dead, .dead, .dead, .dead, .dead, .dead, .dead, .dead, .dead, .dead, .dead, .dead, .dead, .dead, .dead, .dead, .dead, .dead, .dead, .dead, .dead, .dead, .dead, .dead, .dead, .dead, .dead, .dead, .dead, .dead, .dead, .dead, .dead, .dead, .dead, .dead, .dead, .dead, .dead, .dead, .dead, .dead, .dead, .dead, .dead, .dead, .dead, .dead, .dead, .dead, .dead, .dead, .dead, .dead, .dead, .dead, .dead, .dead, .dead, .dead, .dead, .dead, .dead, .dead, .dead, .dead, .dead, .dead, .dead, .dead, .dead, .dead, .dead, .dead, .dead, .dead, .dead, .dead, .dead, .dead, .dead, .dead, .dead, .dead, .dead, .dead, .dead, .dead, .dead, .dead, .dead, .dead, .dead, .dead, .dead, .dead, .dead, .dead, .dead, .dead, .dead, .dead, .dead, .dead, .dead, .dead, .dead, .dead, .dead, .dead, .dead, .dead, .dead, .dead, .dead, .dead, .dead, .dead, .dead, .dead, .dead, .dead, .dead, .dead, .dead, .dead, .dead, .dead, .dead, .dead, .dead, .dead, .dead, .dead, .dead, .dead, .dead, .dead, .dead, .dead, .dead, .dead, .dead, .dead, .dead, .dead, .dead, .dead, .dead, .dead, .dead, .dead, .dead, .dead, .dead, .dead, .dead, .dead, .dead, .dead, .dead, .dead, .dead, .dead, .dead, .dead, .dead, .dead, .dead, .dead, .dead, .dead, .dead, .dead, .dead, .dead, .dead, .dead, .dead, .dead, .dead, .dead, .dead, .dead, .dead], hOf [(1000000000, (.ints .i64 p0))], [(.all 1000000000 1)], []⟩
noncomputable abbrev L5 (fuel n : Nat) (s : St) (k : Kont) := lAt Try.prog X I fuel false 3 false 44 (bodyOf Try.f44) [1, 1, 0, 0] n s k
noncomputable abbrev k5  (fuel : Nat) : Kont := (kAt Try.prog X I fuel false 3 false 44 (bodyOf Try.f44) [1, 1, 0, 0] [] (endFn Try.prog Try.f44 220 (kOp Try.prog X I fuel false 4 42 (cAt (bodyOf Try.f42) [1, 1, 1, 1, 1, 1, 1, 1, 1, 0, 1, 0]) 5 (kAt Try.prog X I fuel false 4 false 42 (bodyOf Try.f42) [1, 1, 1, 1, 1, 1, 1, 1, 1, 0, 1, 0] [] (endK Try.prog Try.f42)))))
noncomputable def t5 (p2 : Int) (p4d : List Q → Bool) (p4g : List Q → Int) (p1 : Int) (p3 : Int) (x4q7 : Int) (x5q3 : Int) (x5q4 : Int) (x5q5 : List Int) : St := ⟨[(.all 1000000000 1), .dead, (.imm (.int .i64 p2)), .dead, (.imm (.fn false p4d p4g)), .dead, .dead, .dead, .dead, .dead, (.imm (.int .i64 x5q3)), (.imm (.int .i64 x5q4)), .dead, .dead, .dead, .dead, .dead, .dead, .dead, .dead, .dead, .dead, .dead, .dead, .dead, .dead, .dead, .dead, .dead, .dead, .dead, .dead, .dead, .dead, .dead, .dead, .dead, .dead, .dead, .dead, .dead, .dead, .dead, .dead, .dead, .dead, .dead, .dead, .dead, .dead, .dead, .dead, .dead, .dead, .dead, .dead, .dead, .dead], hOf [(1000000000, (.ints .i64 x5q5))], [(.all 1000000000 1), (.imm (.int .i64 p1)), (.imm (.int .i64 p2)), (.imm (.int .i64 p3)), (.imm (.fn false p4d p4g)), .dead, .dead, .dead, .dead, .dead, .dead, .dead, .dead, .dead, .dead, .dead, .dead, .dead, (.imm (.int .i64 (halfI p1 p3))), .dead, (.imm (.int .i64 x4q7)), .dead, .dead, .dead, (.imm (.int .i64 (IntKind.wrap .i64 ((IntKind.wrap .i64 ((halfI p1 p3) + p2)) - x4q7)))), .dead, .dead, .dead, .dead, .dead, .dead, .dead, .dead, .dead, .dead, .dead, .dead, .dead, .dead, .dead, .dead, .dead, .dead, .dead, .dead, .dead, .dead, .dead, .dead, .dead, .dead, .dead, .dead, .dead, .dead, .dead, .dead, .dead, .dead, .dead, .dead, .dead, .dead, .dead, .dead, .dead, .dead, .dead, .dead, .dead, .dead, .dead, .dead, .dead, .dead, .dead, .dead, .dead, .dead, .dead, .dead, .dead, .dead, .dead, .dead, .dead, .dead, .dead, .dead, .dead, .dead, .dead, .dead, .dead, .dead, .dead, .dead, .dead, .dead, .dead, .dead, .dead, .dead, .dead, .dead, .dead, .dead, .dead, .dead, .dead, .dead, .dead, .dead, .dead, .dead, .dead, .dead, .dead, .dead, .dead, .dead, .dead, .dead, .dead, .dead, .dead, .dead, .dead, .dead, .dead, .dead, .dead, .dead, .dead, .dead, .dead, .dead, .dead, .dead, .dead, .dead, .dead, .dead, .dead, .dead, .dead, .dead, .dead, .dead, .dead, .dead, .dead, .dead, .dead, .dead, .dead, .dead, .dead, .dead, .dead, .dead, .dead, .dead, .dead, .dead, .dead, .dead, .dead, .dead, .dead, .dead, .dead, .dead, .dead, .dead, .dead, .dead, .dead, .dead, .dead, .dead, .dead, .dead, .dead, .dead, .dead, (.all 1000000000 1), (.imm (.int .i64 x4q7)), (.imm (.int .i64 p2)), (.imm (.int .i64 (IntKind.wrap .i64 ((IntKind.wrap .i64 ((halfI p1 p3) + p2)) - x4q7)))), (.imm (.fn false p4d p4g)), .dead, .dead, .dead, .dead, .dead, .dead, .dead, .dead, .dead, .dead, .dead, .dead, .dead, .dead, .dead, .dead, .dead, .dead, .dead, .dead, .dead, .dead, .dead, .dead, .dead, .dead, .dead, .dead, .dead, (.tup []), (.all 1000000000 1)], []⟩
noncomputable abbrev L6 (fuel n : Nat) (s : St) (k : Kont) := lAt Try.prog X I fuel false 2 false 45 (bodyOf Try.f45) [1, 0] n s k
noncomputable abbrev k6 (n5 : Nat) (fuel : Nat) : Kont := (kAt Try.prog X I fuel false 2 false 45 (bodyOf Try.f45) [1, 0] [] (endFn Try.prog Try.f45 58 (kOp Try.prog X I fuel false 3 44 (cAt (bodyOf Try.f44) [1, 1, 0, 0, 0, 1, 0, 1, 0, 0]) 7 (kAt Try.prog X I fuel false 3 false 44 (bodyOf Try.f44) [1, 1, 0, 0, 0, 1, 0, 1, 0, 0] [n5] (endFn Try.prog Try.f44 220 (kOp Try.prog X I fuel false 4 42 (cAt (bodyOf Try.f42) [1, 1, 1, 1, 1, 1, 1, 1, 1, 0, 1, 0]) 5 (kAt Try.prog X I fuel false 4 false 42 (bodyOf Try.f42) [1, 1, 1, 1, 1, 1, 1, 1, 1, 0, 1, 0] [] (endK Try.prog Try.f42))))))))
noncomputable def t6 (p2 : Int) (x5q3 : Int) (x5q4 : Int) (p4d : List Q → Bool) (p4g : List Q → Int) (p1 : Int) (p3 : Int) (x4q7 : Int) (x6q3 : Int) (x6q4 : List Int) : St := ⟨[(.all 1000000000 1), (.imm (.int .i64 (IntKind.wrap .i64 (p2 - x5q3)))), (.imm (.int .i64 p2)), (.imm (.int .i64 x5q4)), .dead, .dead, .dead, .dead, .dead, .dead, (.imm (.int .i64 x6q3)), .dead, .dead, .dead, .dead, .dead, .dead, .dead, .dead, .dead, .dead, .dead, .dead, .dead, .dead, .dead, .dead, .dead, .dead, .dead, .dead, .dead, .dead, .dead, .dead, .dead, .dead, .dead], hOf [(1000000000, (.ints .i64 x6q4))], [(.all 1000000000 1), .dead, (.imm (.int .i64 p2)), .dead, (.imm (.fn false p4d p4g)), .dead, .dead, .dead, .dead, .dead, (.imm (.int .i64 x5q3)), (.imm (.int .i64 x5q4)), .dead, .dead, .dead, .dead, .dead, .dead, .dead, .dead, .dead, .dead, .dead, .dead, (.all 1000000000 1), (.imm (.int .i64 p2)), (.imm (.int .i64 x5q3)), (.imm (.int .i64 (IntKind.wrap .i64 (p2 - x5q3)))), (.imm (.int .i64 p2)), (.imm (.int .i64 x5q4)), (.imm (.fn false p4d p4g)), .dead, .dead, .dead, .dead, .dead, .dead, .dead, .dead, .dead, .dead, .dead, .dead, .dead, .dead, .dead, .dead, .dead, .dead, .dead, .dead, .dead, .dead, .dead, .dead, .dead, .dead, .dead, (.tup []), (.all 1000000000 1), (.imm (.int .i64 p1)), (.imm (.int .i64 p2)), (.imm (.int .i64 p3)), (.imm (.fn false p4d p4g)), .dead, .dead, .dead, .dead, .dead, .dead, .dead, .dead, .dead, .dead, .dead, .dead, .dead, (.imm (.int .i64 (halfI p1 p3))), .dead, (.imm (.int .i64 x4q7)), .dead, .dead, .dead, (.imm (.int .i64 (IntKind.wrap .i64 ((IntKind.wrap .i64 ((halfI p1 p3) + p2)) - x4q7)))), .dead, .dead, .dead, .dead, .dead, .dead, .dead, .dead, .dead, .dead, .dead, .dead, .dead, .dead, .dead, .dead, .dead, .dead, .dead, .dead, .dead, .dead, .dead, .dead, .dead, .dead, .dead, .dead, .dead, .dead, .dead, .dead, .dead, .dead, .dead, .dead, .dead, .dead, .dead, .dead, .dead, .dead, .dead, .dead, .dead, .dead, .dead, .dead, .dead, .dead, .dead, .dead, .dead, .dead, .dead, .dead, .dead, .dead, .dead, .dead, .dead, .dead, .dead, .dead, .dead, .dead, .dead, .dead, .dead, .dead, .dead, .dead, .dead, .dead, .dead, .dead, .dead, .dead, .dead, .dead, .dead, .dead, .dead, .dead, .dead, .dead, .dead, .dead, .dead, .dead, .dead, .dead, .dead, .dead, .dead, .dead, .dead, .dead, .dead, .dead, .dead, .dead, .dead, .dead, .dead, .dead, .dead, .dead, .dead, .dead, .dead, .dead, .dead, .dead, .dead, .dead, .dead, .dead, .dead, .dead, .dead, .dead, .dead, .dead, .dead, .dead, .dead, .dead, .dead, .dead, .dead, .dead, .dead, .dead, .dead, .dead, .dead, .dead, .dead, .dead, .dead, .dead, .dead, .dead, .dead, .dead, .dead, .dead, .dead, .dead, .dead, .dead, .dead, .dead, .dead, .dead, .dead, .dead, .dead, .dead, .dead, (.all 1000000000 1), (.imm (.int .i64 x4q7)), (.imm (.int .i64 p2)), (.imm (.int .i64 (IntKind.wrap .i64 ((IntKind.wrap .i64 ((halfI p1 p3) + p2)) - x4q7)))), (.imm (.fn false p4d p4g)), .dead, .dead, .dead, .dead, .dead, .dead, .dead, .dead, .dead, .dead, .dead, .dead, .dead, .dead, .dead, .dead, .dead, .dead, .dead, .dead, .dead, .dead, .dead, .dead, .dead, .dead, .dead, .dead, .dead, (.tup []), (.all 1000000000 1)], []⟩
noncomputable abbrev L7 (fuel n : Nat) (s : St) (k : Kont) := lAt Try.prog X I fuel false 2 false 45 (bodyOf Try.f45) [1, 0] n s k
noncomputable abbrev k7 (n5 : Nat) (fuel : Nat) : Kont := (kAt Try.prog X I fuel false 2 false 45 (bodyOf Try.f45) [1, 0] [] (endFn Try.prog Try.f45 58 (kOp Try.prog X I fuel false 3 44 (cAt (bodyOf Try.f44) [1, 1, 0, 0, 0, 1, 0, 1, 1, 0]) 11 (kAt Try.prog X I fuel false 3 false 44 (bodyOf Try.f44) [1, 1, 0, 0, 0, 1, 0, 1, 1, 0] [n5] (endFn Try.prog Try.f44 220 (kOp Try.prog X I fuel false 4 42 (cAt (bodyOf Try.f42) [1, 1, 1, 1, 1, 1, 1, 1, 1, 0, 1, 0]) 5 (kAt Try.prog X I fuel false 4 false 42 (bodyOf Try.f42) [1, 1, 1, 1, 1, 1, 1, 1, 1, 0, 1, 0] [] (endK Try.prog Try.f42))))))))
noncomputable def t7 (p2 : Int) (x5q3 : Int) (x5q4 : Int) (p4d : List Q → Bool) (p4g : List Q → Int) (p1 : Int) (p3 : Int) (x4q7 : Int) (x7q3 : Int) (x7q4 : List Int) : St := ⟨[(.all 1000000000 1), (.imm (.int .i64 (IntKind.wrap .i64 (p2 - x5q3)))), (.imm (.int .i64 (IntKind.wrap .i64 ((IntKind.wrap .i64 (p2 + x5q4)) - x5q3)))), (.imm (.int .i64 x5q3)), .dead, .dead, .dead, .dead, .dead, .dead, (.imm (.int .i64 x7q3)), .dead, .dead, .dead, .dead, .dead, .dead, .dead, .dead, .dead, .dead, .dead, .dead, .dead, .dead, .dead, .dead, .dead, .dead, .dead, .dead, .dead, .dead, .dead, .dead, .dead, .dead, .dead], hOf [(1000000000, (.ints .i64 x7q4))], [(.all 1000000000 1), .dead, (.imm (.int .i64 p2)), .dead, (.imm (.fn false p4d p4g)), .dead, .dead, .dead, .dead, .dead, (.imm (.int .i64 x5q3)), (.imm (.int .i64 x5q4)), .dead, .dead, .dead, .dead, .dead, .dead, .dead, .dead, .dead, .dead, .dead, .dead, .dead, .dead, .dead, .dead, .dead, .dead, .dead, .dead, .dead, .dead, .dead, (.all 1000000000 1), (.imm (.int .i64 p2)), (.imm (.int .i64 x5q3)), (.imm (.int .i64 (IntKind.wrap .i64 (p2 - x5q3)))), (.imm (.int .i64 p2)), (.imm (.int .i64 x5q4)), (.imm (.int .i64 (IntKind.wrap .i64 (p2 + x5q4)))), (.imm (.int .i64 x5q3)), (.imm (.int .i64 (IntKind.wrap .i64 ((IntKind.wrap .i64 (p2 + x5q4)) - x5q3)))), (.imm (.int .i64 x5q3)), (.imm (.fn false p4d p4g)), .dead, .dead, .dead, .dead, .dead, .dead, .dead, .dead, .dead, .dead, .dead, .dead, (.tup []), (.all 1000000000 1), (.imm (.int .i64 p1)), (.imm (.int .i64 p2)), (.imm (.int .i64 p3)), (.imm (.fn false p4d p4g)), .dead, .dead, .dead, .dead, .dead, .dead, .dead, .dead, .dead, .dead, .dead, .dead, .dead, (.imm (.int .i64 (halfI p1 p3))), .dead, (.imm (.int .i64 x4q7)), .dead, .dead, .dead, (.imm (.int .i64 (IntKind.wrap .i64 ((IntKind.wrap .i64 ((halfI p1 p3) + p2)) - x4q7)))), .dead, .dead, .dead, .dead, .dead, .dead, .dead, .dead, .dead, .dead, .dead, .dead, .dead, .dead, .dead, .dead, .dead, .dead, .dead, .dead, .dead, .dead, .dead, .dead, .dead, .dead, .dead, .dead, .dead, .dead, .dead, .dead, .dead, .dead, .dead, .dead, .dead, .dead, .dead, .dead, .dead, .dead, .dead, .dead, .dead, .dead, .dead, .dead, .dead, .dead, .dead, .dead, .dead, .dead, .dead, .dead, .dead, .dead, .dead, .dead, .dead, .dead, .dead, .dead, .dead, .dead, .dead, .dead, .dead, .dead, .dead, .dead, .dead, .dead, .dead, .dead, .dead, .dead, .dead, .dead, .dead, .dead, .dead, .dead, .dead, .dead, .dead, .dead, .dead, .dead, .dead, .dead, .dead, .dead, .dead, .dead, .dead, .dead, .dead, .dead, .dead, .dead, .dead, .dead, .dead, .dead, .dead, .dead, .dead, .dead, .dead, .dead, .dead, .dead, .dead, .dead, .dead, .dead, .dead, .dead, .dead, .dead, .dead, .dead, .dead, .dead, .dead, .dead, .dead, .dead, .dead, .dead, .dead, .dead, .dead, .dead, .dead, .dead, .dead, .dead, .dead, .dead, .dead, .dead, .dead, .dead, .dead, .dead, .dead, .dead, .dead, .dead, .dead, .dead, .dead, .dead, .dead, .dead, .dead, .dead, .dead, (.all 1000000000 1), (.imm (.int .i64 x4q7)), (.imm (.int .i64 p2)), (.imm (.int .i64 (IntKind.wrap .i64 ((IntKind.wrap .i64 ((halfI p1 p3) + p2)) - x4q7)))), (.imm (.fn false p4d p4g)), .dead, .dead, .dead, .dead, .dead, .dead, .dead, .dead, .dead, .dead, .dead, .dead, .dead, .dead, .dead, .dead, .dead, .dead, .dead, .dead, .dead, .dead, .dead, .dead, .dead, .dead, .dead, .dead, .dead, (.tup []), (.all 1000000000 1)], []⟩
noncomputable abbrev L8 (fuel n : Nat) (s : St) (k : Kont) := lAt Try.prog X I fuel false 2 false 45 (bodyOf Try.f45) [1, 0] n s k
noncomputable abbrev k8  (fuel : Nat) : Kont := (kAt Try.prog X I fuel false 2 false 45 (bodyOf Try.f45) [1, 0] [] (endFn Try.prog Try.f45 58 (kOp Try.prog X I fuel false 3 44 (cAt (bodyOf Try.f44) [1, 1, 1]) 7 (kAt Try.prog X I fuel false 3 false 44 (bodyOf Try.f44) [1, 1, 1] [] (endFn Try.prog Try.f44 220 (kOp Try.prog X I fuel false 4 42 (cAt (bodyOf Try.f42) [1, 1, 1, 1, 1, 1, 1, 1, 1, 0, 1, 0]) 5 (kAt Try.prog X I fuel false 4 false 42 (bodyOf Try.f42) [1, 1, 1, 1, 1, 1, 1, 1, 1, 0, 1, 0] [] (endK Try.prog Try.f42))))))))
noncomputable def t8 (p2 : Int) (x5q3 : Int) (p4d : List Q → Bool) (p4g : List Q → Int) (p1 : Int) (p3 : Int) (x4q7 : Int) (x8q3 : Int) (x8q4 : List Int) : St := ⟨[(.all 1000000000 1), (.imm (.int .i64 (IntKind.wrap .i64 (p2 - x5q3)))), (.imm (.int .i64 p2)), (.imm (.int .i64 x5q3)), .dead, .dead, .dead, .dead, .dead, .dead, (.imm (.int .i64 x8q3)), .dead, .dead, .dead, .dead, .dead, .dead, .dead, .dead, .dead, .dead, .dead, .dead, .dead, .dead, .dead, .dead, .dead, .dead, .dead, .dead, .dead, .dead, .dead, .dead, .dead, .dead, .dead], hOf [(1000000000, (.ints .i64 x8q4))], [(.all 1000000000 1), .dead, (.imm (.int .i64 p2)), .dead, (.imm (.fn false p4d p4g)), .dead, .dead, .dead, .dead, .dead, (.imm (.int .i64 x5q3)), .dead, .dead, .dead, .dead, .dead, .dead, .dead, .dead, .dead, .dead, .dead, .dead, .dead, .dead, .dead, .dead, .dead, .dead, .dead, .dead, .dead, .dead, .dead, .dead, .dead, .dead, .dead, .dead, .dead, .dead, .dead, .dead, .dead, .dead, .dead, .dead, .dead, .dead, .dead, (.all 1000000000 1), (.imm (.int .i64 p2)), (.imm (.int .i64 x5q3)), (.imm (.int .i64 (IntKind.wrap .i64 (p2 - x5q3)))), (.imm (.int .i64 p2)), (.imm (.int .i64 x5q3)), (.imm (.fn false p4d p4g)), .dead, (.tup []), (.all 1000000000 1), (.imm (.int .i64 p1)), (.imm (.int .i64 p2)), (.imm (.int .i64 p3)), (.imm (.fn false p4d p4g)), .dead, .dead, .dead, .dead, .dead, .dead, .dead, .dead, .dead, .dead, .dead, .dead, .dead, (.imm (.int .i64 (halfI p1 p3))), .dead, (.imm (.int .i64 x4q7)), .dead, .dead, .dead, (.imm (.int .i64 (IntKind.wrap .i64 ((IntKind.wrap .i64 ((halfI p1 p3) + p2)) - x4q7)))), .dead, .dead, .dead, .dead, .dead, .dead, .dead, .dead, .dead, .dead, .dead, .dead, .dead, .dead, .dead, .dead, .dead, .dead, .dead, .dead, .dead, .dead, .dead, .dead, .dead, .dead, .dead, .dead, .dead, .dead, .dead, .dead, .dead, .dead, .dead, .dead, .dead, .dead, .dead, .dead, .dead, .dead, .dead, .dead, .dead, .dead, .dead, .dead, .dead, .dead, .dead, .dead, .dead, .dead, .dead, .dead, .dead, .dead, .dead, .dead, .dead, .dead, .dead, .dead, .dead, .dead, .dead, .dead, .dead, .dead, .dead, .dead, .dead, .dead, .dead, .dead, .dead, .dead, .dead, .dead, .dead, .dead, .dead, .dead, .dead, .dead, .dead, .dead, .dead, .dead, .dead, .dead, .dead, .dead, .dead, .dead, .dead, .dead, .dead, .dead, .dead, .dead, .dead, .dead, .dead, .dead, .dead, .dead, .dead, .dead, .dead, .dead, .dead, .dead, .dead, .dead, .dead, .dead, .dead, .dead, .dead, .dead, .dead, .dead, .dead, .dead, .dead, .dead, .dead, .dead, .dead, .dead, .dead, .dead, .dead, .dead, .dead, .dead, .dead, .dead, .dead, .dead, .dead, .dead, .dead, .dead, .dead, .dead, .dead, .dead, .dead, .dead, .dead, .dead, .dead, .dead, .dead, .dead, .dead, .dead, .dead, (.all 1000000000 1), (.imm (.int .i64 x4q7)), (.imm (.int .i64 p2)), (.imm (.int .i64 (IntKind.wrap .i64 ((IntKind.wrap .i64 ((halfI p1 p3) + p2)) - x4q7)))), (.imm (.fn false p4d p4g)), .dead, .dead, .dead, .dead, .dead, .dead, .dead, .dead, .dead, .dead, .dead, .dead, .dead, .dead, .dead, .dead, .dead, .dead, .dead, .dead, .dead, .dead, .dead, .dead, .dead, .dead, .dead, .dead, .dead, (.tup []), (.all 1000000000 1)], []⟩
theorem e (fuel : Nat) (p0 : List Int) (p1 : Int) (p2 : Int) (p3 : Int) (p4d : List Q → Bool) (p4g : List Q → Int) : runF Try.prog X I 4 fuel 42 Try.f42 [.rows true [(.i64, p0)], .d (.int .i64 p1), .d (.int .i64 p2), .d (.int .i64 p3), .d (.fn false p4d p4g)] =
  (bif (((IntKind.wrap .i64 (p2 - p1)) : Int) == 1) then
  L0 fuel fuel (t0 p1 p4d p4g p0 p2 p3) (k0  fuel)
  else
  (bif (((IntKind.wrap .i64 (p3 - p2)) : Int) == 1) then
  L2 fuel fuel (t2 p2 p4d p4g p0 p1 p2) (k2  fuel)
  else
  (bif (decide ((p2 : Int) > (halfI p1 p3))) then
  L4 fuel fuel (t4 p1 p2 p3 p4d p4g p0 ((IntKind.wrap .i64 ((IntKind.wrap .i64 ((halfI p1 p3) + p2)) - p3))) ((halfI p1 p3))) (k4  fuel)
  else
  L4 fuel fuel (t4 p1 p2 p3 p4d p4g p0 p1 p2) (k4  fuel)))) := by kernel_rfl
theorem s0 (fuel n0 : Nat) (p1 : Int) (p4d : List Q → Bool) (p4g : List Q → Int) (p0 : List Int) (x0q3 : Int) (x0q4 : Int) : L0 fuel (n0 + 1) (t0 p1 p4d p4g p0 x0q3 x0q4) (k0  fuel) =
  (bif (decide ((x0q3 : Int) < x0q4)) then
  (idx (halfI x0q3 x0q4) p0.length).bind fun j39 =>
  (p0[j39]?).bind fun v40 =>
  (idx p1 p0.length).bind fun j41 =>
  (p0[j41]?).bind fun v42 =>
  (bif (p4d [Q.i v40, Q.i v42]) then
  (bif (decide (((p4g [Q.i v40, Q.i v42]) : Int) < 0)) then
  L0 fuel n0 (t0 p1 p4d p4g p0 ((IntKind.wrap .i64 ((halfI x0q3 x0q4) + 1))) x0q4) (k0  fuel)
  else
  L0 fuel n0 (t0 p1 p4d p4g p0 x0q3 ((halfI x0q3 x0q4))) (k0  fuel))
  else
  none)
  else
  L1 fuel fuel (t1 x0q3 p1 p0) (k1  fuel)) := by kernel_rfl
theorem s1 (fuel n1 : Nat) (x0q3 : Int) (x1q1 : Int) (x1q2 : List Int) : L1 fuel (n1 + 1) (t1 x0q3 x1q1 x1q2) (k1  fuel) =
  (bif (decide ((x1q1 : Int) < (IntKind.wrap .i64 (x0q3 - 1)))) then
  (idx (IntKind.wrap .i64 (x1q1 + 1)) x1q2.length).bind fun j49 =>
  (x1q2[j49]?).bind fun v50 =>
  (idx x1q1 x1q2.length).bind fun j51 =>
  (x1q2[j51]?).bind fun v52 =>
  (idx x1q1 x1q2.length).bind fun j53 =>
  (bif decide (j53 < x1q2.length) then
  (idx (IntKind.wrap .i64 (x1q1 + 1)) (x1q2.set j53 v50).length).bind fun j54 =>
  (bif decide (j54 < (x1q2.set j53 v50).length) then
  L1 fuel n1 (t1 x0q3 ((IntKind.wrap .i64 (x1q1 + 1))) (((x1q2.set j53 v50).set j54 v52))) (k1  fuel)
  else
  none)
  else
  none)
  else
  some ([], [[(.ints .i64 x1q2)]])) := by kernel_rfl
theorem s2 (fuel n2 : Nat) (p2 : Int) (p4d : List Q → Bool) (p4g : List Q → Int) (p0 : List Int) (x2q3 : Int) (x2q4 : Int) : L2 fuel (n2 + 1) (t2 p2 p4d p4g p0 x2q3 x2q4) (k2  fuel) =
  (bif (decide ((x2q3 : Int) < x2q4)) then
  (idx p2 p0.length).bind fun j93 =>
  (p0[j93]?).bind fun v94 =>
  (idx (halfI x2q3 x2q4) p0.length).bind fun j95 =>
  (p0[j95]?).bind fun v96 =>
  (bif (p4d [Q.i v94, Q.i v96]) then
  (bif (!(decide (((p4g [Q.i v94, Q.i v96]) : Int) < 0))) then
  L2 fuel n2 (t2 p2 p4d p4g p0 ((IntKind.wrap .i64 ((halfI x2q3 x2q4) + 1))) x2q4) (k2  fuel)
  else
  L2 fuel n2 (t2 p2 p4d p4g p0 x2q3 ((halfI x2q3 x2q4))) (k2  fuel))
  else
  none)
  else
  L3 fuel fuel (t3 x2q3 p2 p0) (k3  fuel)) := by kernel_rfl
theorem s3 (fuel n3 : Nat) (x2q3 : Int) (x3q1 : Int) (x3q2 : List Int) : L3 fuel (n3 + 1) (t3 x2q3 x3q1 x3q2) (k3  fuel) =
  (bif (decide ((x3q1 : Int) > x2q3)) then
  (idx (IntKind.wrap .i64 (x3q1 - 1)) x3q2.length).bind fun j103 =>
  (x3q2[j103]?).bind fun v104 =>
  (idx x3q1 x3q2.length).bind fun j105 =>
  (x3q2[j105]?).bind fun v106 =>
  (idx x3q1 x3q2.length).bind fun j107 =>
  (bif decide (j107 < x3q2.length) then
  (idx (IntKind.wrap .i64 (x3q1 - 1)) (x3q2.set j107 v104).length).bind fun j108 =>
  (bif decide (j108 < (x3q2.set j107 v104).length) then
  L3 fuel n3 (t3 x2q3 ((IntKind.wrap .i64 (x3q1 - 1))) (((x3q2.set j107 v104).set j108 v106))) (k3  fuel)
  else
  none)
  else
  none)
  else
  some ([], [[(.ints .i64 x3q2)]])) := by kernel_rfl
theorem s4 (fuel n4 : Nat) (p1 : Int) (p2 : Int) (p3 : Int) (p4d : List Q → Bool) (p4g : List Q → Int) (p0 : List Int) (x4q7 : Int) (x4q8 : Int) : L4 fuel (n4 + 1) (t4 p1 p2 p3 p4d p4g p0 x4q7 x4q8) (k4  fuel) =
  (bif (decide ((x4q7 : Int) < x4q8)) then
  (idx (IntKind.wrap .i64 ((IntKind.wrap .i64 ((IntKind.wrap .i64 ((halfI p1 p3) + p2)) - 1)) - (halfI x4q7 x4q8))) p0.length).bind fun j315 =>
  (p0[j315]?).bind fun v316 =>
  (idx (halfI x4q7 x4q8) p0.length).bind fun j317 =>
  (p0[j317]?).bind fun v318 =>
  (bif (p4d [Q.i v316, Q.i v318]) then
  (bif (!(decide (((p4g [Q.i v316, Q.i v318]) : Int) < 0))) then
  L4 fuel n4 (t4 p1 p2 p3 p4d p4g p0 ((IntKind.wrap .i64 ((halfI x4q7 x4q8) + 1))) x4q8) (k4  fuel)
  else
  L4 fuel n4 (t4 p1 p2 p3 p4d p4g p0 x4q7 ((halfI x4q7 x4q8))) (k4  fuel))
  else
  none)
  else
  (bif (decide ((x4q7 : Int) < p2)) then
  (bif (decide ((p2 : Int) < (IntKind.wrap .i64 ((IntKind.wrap .i64 ((halfI p1 p3) + p2)) - x4q7)))) then
  L5 fuel fuel (t5 p2 p4d p4g p1 p3 x4q7 ((IntKind.wrap .i64 (p2 - x4q7))) ((IntKind.wrap .i64 ((IntKind.wrap .i64 ((IntKind.wrap .i64 ((halfI p1 p3) + p2)) - x4q7)) - p2))) p0) (k5  fuel)
  else
  (tailM ((8 : Nat) : Int) p4d p4g p1 x4q7 (halfI p1 p3) (IntKind.wrap .i64 ((IntKind.wrap .i64 ((halfI p1 p3) + p2)) - x4q7)) p3 p0))
  else
  (tailM ((8 : Nat) : Int) p4d p4g p1 x4q7 (halfI p1 p3) (IntKind.wrap .i64 ((IntKind.wrap .i64 ((halfI p1 p3) + p2)) - x4q7)) p3 p0))) := by kernel_rfl
theorem s5 (fuel n5 : Nat) (p2 : Int) (p4d : List Q → Bool) (p4g : List Q → Int) (p1 : Int) (p3 : Int) (x4q7 : Int) (x5q3 : Int) (x5q4 : Int) (x5q5 : List Int) : L5 fuel (n5 + 1) (t5 p2 p4d p4g p1 p3 x4q7 x5q3 x5q4 x5q5) (k5  fuel) =
  (bif ((x5q3 : Int) != x5q4) then
  (bif (decide ((x5q3 : Int) > x5q4)) then
  L6 fuel fuel (t6 p2 x5q3 x5q4 p4d p4g p1 p3 x4q7 0 x5q5) (k6 n5 fuel)
  else
  L7 fuel fuel (t7 p2 x5q3 x5q4 p4d p4g p1 p3 x4q7 0 x5q5) (k7 n5 fuel))
  else
  L8 fuel fuel (t8 p2 x5q3 p4d p4g p1 p3 x4q7 0 x5q5) (k8  fuel)) := by kernel_rfl
theorem s6 (fuel n5 n6 : Nat) (p2 : Int) (x5q3 : Int) (x5q4 : Int) (p4d : List Q → Bool) (p4g : List Q → Int) (p1 : Int) (p3 : Int) (x4q7 : Int) (x6q3 : Int) (x6q4 : List Int) : L6 fuel (n6 + 1) (t6 p2 x5q3 x5q4 p4d p4g p1 p3 x4q7 x6q3 x6q4) (k6 n5 fuel) =
  (bif (decide ((x6q3 : Int) < x5q4)) then
  (idx (IntKind.wrap .i64 (p2 + x6q3)) x6q4.length).bind fun j361 =>
  (x6q4[j361]?).bind fun v362 =>
  (idx (IntKind.wrap .i64 ((IntKind.wrap .i64 (p2 - x5q3)) + x6q3)) x6q4.length).bind fun j363 =>
  (x6q4[j363]?).bind fun v364 =>
  (idx (IntKind.wrap .i64 ((IntKind.wrap .i64 (p2 - x5q3)) + x6q3)) x6q4.length).bind fun j365 =>
  (bif decide (j365 < x6q4.length) then
  (idx (IntKind.wrap .i64 (p2 + x6q3)) (x6q4.set j365 v362).length).bind fun j366 =>
  (bif decide (j366 < (x6q4.set j365 v362).length) then
  L6 fuel n6 (t6 p2 x5q3 x5q4 p4d p4g p1 p3 x4q7 ((IntKind.wrap .i64 (x6q3 + 1))) (((x6q4.set j365 v362).set j366 v364))) (k6 n5 fuel)
  else
  none)
  else
  none)
  else
  L5 fuel n5 (t5 p2 p4d p4g p1 p3 x4q7 ((IntKind.wrap .i64 (x5q3 - x5q4))) x5q4 x6q4) (k5  fuel)) := by kernel_rfl
theorem s7 (fuel n5 n7 : Nat) (p2 : Int) (x5q3 : Int) (x5q4 : Int) (p4d : List Q → Bool) (p4g : List Q → Int) (p1 : Int) (p3 : Int) (x4q7 : Int) (x7q3 : Int) (x7q4 : List Int) : L7 fuel (n7 + 1) (t7 p2 x5q3 x5q4 p4d p4g p1 p3 x4q7 x7q3 x7q4) (k7 n5 fuel) =
  (bif (decide ((x7q3 : Int) < x5q3)) then
  (idx (IntKind.wrap .i64 ((IntKind.wrap .i64 ((IntKind.wrap .i64 (p2 + x5q4)) - x5q3)) + x7q3)) x7q4.length).bind fun j373 =>
  (x7q4[j373]?).bind fun v374 =>
  (idx (IntKind.wrap .i64 ((IntKind.wrap .i64 (p2 - x5q3)) + x7q3)) x7q4.length).bind fun j375 =>
  (x7q4[j375]?).bind fun v376 =>
  (idx (IntKind.wrap .i64 ((IntKind.wrap .i64 (p2 - x5q3)) + x7q3)) x7q4.length).bind fun j377 =>
  (bif decide (j377 < x7q4.length) then
  (idx (IntKind.wrap .i64 ((IntKind.wrap .i64 ((IntKind.wrap .i64 (p2 + x5q4)) - x5q3)) + x7q3)) (x7q4.set j377 v374).length).bind fun j378 =>
  (bif decide (j378 < (x7q4.set j377 v374).length) then
  L7 fuel n7 (t7 p2 x5q3 x5q4 p4d p4g p1 p3 x4q7 ((IntKind.wrap .i64 (x7q3 + 1))) (((x7q4.set j377 v374).set j378 v376))) (k7 n5 fuel)
  else
  none)
  else
  none)
  else
  L5 fuel n5 (t5 p2 p4d p4g p1 p3 x4q7 x5q3 ((IntKind.wrap .i64 (x5q4 - x5q3))) x7q4) (k5  fuel)) := by kernel_rfl
theorem s8 (fuel n8 : Nat) (p2 : Int) (x5q3 : Int) (p4d : List Q → Bool) (p4g : List Q → Int) (p1 : Int) (p3 : Int) (x4q7 : Int) (x8q3 : Int) (x8q4 : List Int) : L8 fuel (n8 + 1) (t8 p2 x5q3 p4d p4g p1 p3 x4q7 x8q3 x8q4) (k8  fuel) =
  (bif (decide ((x8q3 : Int) < x5q3)) then
  (idx (IntKind.wrap .i64 (p2 + x8q3)) x8q4.length).bind fun j385 =>
  (x8q4[j385]?).bind fun v386 =>
  (idx (IntKind.wrap .i64 ((IntKind.wrap .i64 (p2 - x5q3)) + x8q3)) x8q4.length).bind fun j387 =>
  (x8q4[j387]?).bind fun v388 =>
  (idx (IntKind.wrap .i64 ((IntKind.wrap .i64 (p2 - x5q3)) + x8q3)) x8q4.length).bind fun j389 =>
  (bif decide (j389 < x8q4.length) then
  (idx (IntKind.wrap .i64 (p2 + x8q3)) (x8q4.set j389 v386).length).bind fun j390 =>
  (bif decide (j390 < (x8q4.set j389 v386).length) then
  L8 fuel n8 (t8 p2 x5q3 p4d p4g p1 p3 x4q7 ((IntKind.wrap .i64 (x8q3 + 1))) (((x8q4.set j389 v386).set j390 v388))) (k8  fuel)
  else
  none)
  else
  none)
  else
  (tailM ((8 : Nat) : Int) p4d p4g p1 x4q7 (halfI p1 p3) (IntKind.wrap .i64 ((IntKind.wrap .i64 ((halfI p1 p3) + p2)) - x4q7)) p3 x8q4)) := by kernel_rfl
end smv4
theorem smv4.ok_of (hX : ∀ E ∈ smv4.X, CallSpec Try.prog E) (h : ∀ (xs : List Int) (a : Int) (m : Int) (b : Int) (dom : List Q → Bool) (G : List Q → Int), (decide ((xs : List Int).length ≤ 60) && domA dom xs && mgW G xs a m b && decide (0 ≤ a) && decide (a < m) && decide (m < b) && decide (b - a ≤ 16)) = true → ∃ fuel, runF Try.prog smv4.X smv4.I 4 fuel 42 Try.f42 [.rows true [(.i64, xs)], .d (.int .i64 a), .d (.int .i64 m), .d (.int .i64 b), .d (.fn false dom G)] = some ([], [[(.ints .i64 (segS (ltG G) a.toNat b.toNat xs))]])) : CallSpec Try.prog smv4.E :=
  callSpec_of (d := 4) hX (by kernel_rfl) smv4.I_ok (by kernel_rfl) (by kernel_rfl) (by kernel_rfl) (fun _ _ _ _ h => by dsimp only [smv4.E] at h; cases h) (fun xs hp => by
    dsimp only [smv4.E] at hp ⊢
    split at hp
    · exact h _ _ _ _ _ _ hp
    · cases hp)
theorem smv4.shift {F : Nat} {xs : List Int} {a i : Nat} (hl : xs.length ≤ 60) (hi : a + 1 ≤ i) (hib : i ≤ xs.length) (hF : 200 < F) :
    smv4.L1 F F (smv4.t1 (i : Int) (a : Int) xs) (smv4.k1 F) = some ([], [[(.ints .i64 (shU a (i - 1 - a) xs))]]) := by
  refine run_loop (N := i - 1 - a) (fun n c ys => smv4.L1 F n (smv4.t1 (i : Int) ((a + c : Nat) : Int) ys) (smv4.k1 F)) (fun c ys => ys = shU a c xs) ?_ ?_ F 0 xs (by omega) (by omega) rfl
  · rintro n ys rfl
    rw [smv4.s1, wS (by omega) (by omega), decide_eq_false (by omega)]
    rfl
  · rintro n c ys hc rfl
    have hyl := shU_len a c xs
    refine ⟨_, rfl, ?_⟩
    rw [smv4.s1, wS (x := (i : Int) - 1) (by omega) (by omega), decide_eq_true (by omega), cond_true, w1 (by omega), idx_nat (j := a + c + 1) (by omega), idx_nat (j := a + c) (by omega)]
    simp only [Option.bind_some, getD_get (show a + c + 1 < (shU a c xs).length by omega), getD_get (show a + c < (shU a c xs).length by omega)]
    rw [decide_eq_true (show a + c < (shU a c xs).length by omega), cond_true, List.length_set, idx_nat (j := a + c + 1) (by omega)]
    simp only [Option.bind_some, List.length_set]
    rw [decide_eq_true (show a + c + 1 < (shU a c xs).length by omega), cond_true]
    rfl
theorem smv4.left {F : Nat} {xs : List Int} {a b : Nat} {dom : List Q → Bool} {G : List Q → Int} {da : List Int} (hd : domA dom xs = true) (hlt : ltG G = ltD da) (hl : xs.length ≤ 60) (h : MG da a (a + 1) b xs) (hF : 200 < F) : ∀ (d n i j : Nat), j - i ≤ d → a + 1 ≤ i → i ≤ j → j ≤ b → (i = a + 1 ∨ ltD da (xs.getD (i - 1) 0) (xs.getD a 0) = true) → (j = b ∨ ltD da (xs.getD j 0) (xs.getD a 0) = false) → d < n →
    smv4.L0 F n (smv4.t0 (a : Int) dom G xs (i : Int) (j : Int)) (smv4.k0 F) = some ([], [[(.ints .i64 (segS (ltD da) a b xs))]]) := by
  have hb := h.bl
  have hfin : ∀ n i : Nat, a + 1 ≤ i → i ≤ b → (i = a + 1 ∨ ltD da (xs.getD (i - 1) 0) (xs.getD a 0) = true) → (i = b ∨ ltD da (xs.getD i 0) (xs.getD a 0) = false) → smv4.L0 F (n + 1) (smv4.t0 (a : Int) dom G xs (i : Int) (i : Int)) (smv4.k0 F) = some ([], [[(.ints .i64 (segS (ltD da) a b xs))]]) := by
    intro n i h1 h2 h3 h4
    rw [smv4.s0, decide_eq_false (by omega), cond_false, smv4.shift hl h1 (by omega) hF, mg_left' h h1 h2 h3 h4]
  intro d
  induction d with
  | zero =>
    intro n i j h1 h2 h3 h4 h5 h6 h7
    obtain ⟨n, rfl⟩ : ∃ k, n = k + 1 := ⟨n - 1, by omega⟩
    obtain rfl : i = j := by omega
    exact hfin n i h2 h4 h5 h6
  | succ d ih =>
    intro n i j h1 h2 h3 h4 h5 h6 h7
    obtain ⟨n, rfl⟩ : ∃ k, n = k + 1 := ⟨n - 1, by omega⟩
    by_cases hj : i < j
    · have hh : (i + j) / 2 < xs.length := by omega
      have ha : a < xs.length := by omega
      have hdm := domA_get hd (mem_getD hh) (mem_getD ha)
      have hlx := ltG_at hlt (xs.getD ((i + j) / 2) 0) (xs.getD a 0)
      rw [smv4.s0, decide_eq_true (by omega), cond_true, halfV (by omega), idx_nat hh, idx_nat ha]
      simp only [Option.bind_some, getD_get hh, getD_get ha, hdm, hlx, cond_true]
      cases hc : ltD da (xs.getD ((i + j) / 2) 0) (xs.getD a 0) with
      | true =>
        rw [cond_true, w1 (by omega)]
        exact ih n ((i + j) / 2 + 1) j (by omega) (by omega) (by omega) h4 (.inr (by rw [Nat.add_sub_cancel]; exact hc)) h6 (by omega)
      | false =>
        rw [cond_false]
        exact ih n i ((i + j) / 2) (by omega) h2 (by omega) (by omega) h5 (.inr hc) (by omega)
    · obtain rfl : i = j := by omega
      exact hfin n i h2 h4 h5 h6
theorem smv4.down {F : Nat} {xs : List Int} {m i : Nat} (hl : xs.length ≤ 60) (hi : i ≤ m) (hm : m < xs.length) (hF : 200 < F) :
    smv4.L3 F F (smv4.t3 (i : Int) (m : Int) xs) (smv4.k3 F) = some ([], [[(.ints .i64 (shD m (m - i) xs))]]) := by
  refine run_loop (N := m - i) (fun n c ys => smv4.L3 F n (smv4.t3 (i : Int) ((m - c : Nat) : Int) ys) (smv4.k3 F)) (fun c ys => ys = shD m c xs) ?_ ?_ F 0 xs (by omega) (by omega) rfl
  · rintro n ys rfl
    rw [smv4.s3, decide_eq_false (by omega)]
    rfl
  · rintro n c ys hc rfl
    have hyl := shD_len m c xs
    refine ⟨_, rfl, ?_⟩
    have e1 : IntKind.wrap .i64 (((m - c : Nat) : Int) - 1) = ((m - c - 1 : Nat) : Int) := by rw [wS (by omega) (by omega)]; omega
    rw [smv4.s3, decide_eq_true (by omega), cond_true, e1, idx_nat (j := m - c - 1) (by omega), idx_nat (j := m - c) (by omega)]
    simp only [Option.bind_some, getD_get (show m - c - 1 < (shD m c xs).length by omega), getD_get (show m - c < (shD m c xs).length by omega)]
    rw [decide_eq_true (show m - c < (shD m c xs).length by omega), cond_true, List.length_set, idx_nat (j := m - c - 1) (by omega)]
    simp only [Option.bind_some, List.length_set]
    rw [decide_eq_true (show m - c - 1 < (shD m c xs).length by omega), cond_true, show m - (c + 1) = m - c - 1 by omega]
    rfl
theorem smv4.right {F : Nat} {xs : List Int} {a m : Nat} {dom : List Q → Bool} {G : List Q → Int} {da : List Int} (hd : domA dom xs = true) (hlt : ltG G = ltD da) (hl : xs.length ≤ 60) (h : MG da a m (m + 1) xs) (hF : 200 < F) : ∀ (d n i j : Nat), j - i ≤ d → a ≤ i → i ≤ j → j ≤ m → (i = a ∨ ltD da (xs.getD m 0) (xs.getD (i - 1) 0) = false) → (j = m ∨ ltD da (xs.getD m 0) (xs.getD j 0) = true) → d < n →
    smv4.L2 F n (smv4.t2 (m : Int) dom G xs (i : Int) (j : Int)) (smv4.k2 F) = some ([], [[(.ints .i64 (segS (ltD da) a (m + 1) xs))]]) := by
  have hb := h.bl
  have hfin : ∀ n i : Nat, a ≤ i → i ≤ m → (i = a ∨ ltD da (xs.getD m 0) (xs.getD (i - 1) 0) = false) → (i = m ∨ ltD da (xs.getD m 0) (xs.getD i 0) = true) → smv4.L2 F (n + 1) (smv4.t2 (m : Int) dom G xs (i : Int) (i : Int)) (smv4.k2 F) = some ([], [[(.ints .i64 (segS (ltD da) a (m + 1) xs))]]) := by
    intro n i h1 h2 h3 h4
    rw [smv4.s2, decide_eq_false (by omega), cond_false, smv4.down hl h2 (by omega) hF, mg_right' h h1 h2 h3 h4]
  intro d
  induction d with
  | zero =>
    intro n i j h1 h2 h3 h4 h5 h6 h7
    obtain ⟨n, rfl⟩ : ∃ k, n = k + 1 := ⟨n - 1, by omega⟩
    obtain rfl : i = j := by omega
    exact hfin n i h2 h4 h5 h6
  | succ d ih =>
    intro n i j h1 h2 h3 h4 h5 h6 h7
    obtain ⟨n, rfl⟩ : ∃ k, n = k + 1 := ⟨n - 1, by omega⟩
    by_cases hj : i < j
    · have hh : (i + j) / 2 < xs.length := by omega
      have hm : m < xs.length := by omega
      have hdm := domA_get hd (mem_getD hm) (mem_getD hh)
      have hlx := ltG_at hlt (xs.getD m 0) (xs.getD ((i + j) / 2) 0)
      rw [smv4.s2, decide_eq_true (by omega), cond_true, halfV (by omega), idx_nat hh, idx_nat hm]
      simp only [Option.bind_some, getD_get hh, getD_get hm, hdm, hlx, cond_true]
      cases hc : ltD da (xs.getD m 0) (xs.getD ((i + j) / 2) 0) with
      | false =>
        rw [Bool.not_false, cond_true, w1 (by omega)]
        exact ih n ((i + j) / 2 + 1) j (by omega) (by omega) (by omega) h4 (.inr (by rw [Nat.add_sub_cancel]; exact hc)) h6 (by omega)
      | true =>
        rw [Bool.not_true, cond_false]
        exact ih n i ((i + j) / 2) (by omega) h2 (by omega) (by omega) h5 (.inr hc) (by omega)
    · obtain rfl : i = j := by omega
      exact hfin n i h2 h4 h5 h6
theorem smv4.swap6 {F n5 : Nat} {a s b m i j : Nat} {dom : List Q → Bool} {G : List Q → Int} {ys : List Int} (hl : ys.length ≤ 60) (hi : i ≤ m) (hij : j < i) (hm : m + j ≤ ys.length) (hF : 200 < F) :
    smv4.L6 F F (smv4.t6 (m : Int) (i : Int) (j : Int) dom G (a : Int) (b : Int) (s : Int) 0 ys) (smv4.k6 n5 F) = smv4.L5 F n5 (smv4.t5 (m : Int) dom G (a : Int) (b : Int) (s : Int) ((i - j : Nat) : Int) (j : Int) (swR (m - i) m j ys)) (smv4.k5 F) := by
  refine run_loop (N := j) (fun n c zs => smv4.L6 F n (smv4.t6 (m : Int) (i : Int) (j : Int) dom G (a : Int) (b : Int) (s : Int) (c : Int) zs) (smv4.k6 n5 F)) (fun c zs => zs = swR (m - i) m c ys) ?_ ?_ F 0 ys (by omega) (by omega) rfl
  · rintro n zs rfl
    rw [smv4.s6, decide_eq_false (by omega), cond_false, wSub (by omega) (by omega)]
  · rintro n c zs hc rfl
    have hyl := swR_len (m - i) m c ys
    refine ⟨_, rfl, ?_⟩
    rw [smv4.s6, decide_eq_true (by omega), cond_true, wAdd (a := m) (by omega), wSub hi (by omega), wAdd (a := m - i) (by omega), w1 (by omega), idx_nat (j := m + c) (by omega), idx_nat (j := m - i + c) (by omega)]
    simp only [Option.bind_some, getD_get (show m + c < (swR (m - i) m c ys).length by omega), getD_get (show m - i + c < (swR (m - i) m c ys).length by omega)]
    rw [decide_eq_true (show m - i + c < (swR (m - i) m c ys).length by omega), cond_true, List.length_set, idx_nat (j := m + c) (by omega)]
    simp only [Option.bind_some, List.length_set]
    rw [decide_eq_true (show m + c < (swR (m - i) m c ys).length by omega), cond_true]
    rfl
theorem smv4.swap7 {F n5 : Nat} {a s b m i j : Nat} {dom : List Q → Bool} {G : List Q → Int} {ys : List Int} (hl : ys.length ≤ 60) (hi : i ≤ m) (hij : i < j) (hm : m + j ≤ ys.length) (hF : 200 < F) :
    smv4.L7 F F (smv4.t7 (m : Int) (i : Int) (j : Int) dom G (a : Int) (b : Int) (s : Int) 0 ys) (smv4.k7 n5 F) = smv4.L5 F n5 (smv4.t5 (m : Int) dom G (a : Int) (b : Int) (s : Int) (i : Int) ((j - i : Nat) : Int) (swR (m - i) (m + j - i) i ys)) (smv4.k5 F) := by
  refine run_loop (N := i) (fun n c zs => smv4.L7 F n (smv4.t7 (m : Int) (i : Int) (j : Int) dom G (a : Int) (b : Int) (s : Int) (c : Int) zs) (smv4.k7 n5 F)) (fun c zs => zs = swR (m - i) (m + j - i) c ys) ?_ ?_ F 0 ys (by omega) (by omega) rfl
  · rintro n zs rfl
    rw [smv4.s7, decide_eq_false (by omega), cond_false, wSub (by omega) (by omega)]
  · rintro n c zs hc rfl
    have hyl := swR_len (m - i) (m + j - i) c ys
    refine ⟨_, rfl, ?_⟩
    rw [smv4.s7, decide_eq_true (by omega), cond_true, wAdd (a := m) (b := j) (by omega), wSub (a := m + j) (by omega) (by omega), wAdd (a := m + j - i) (by omega), wSub hi (by omega), wAdd (a := m - i) (by omega), w1 (by omega), idx_nat (j := m + j - i + c) (by omega), idx_nat (j := m - i + c) (by omega)]
    simp only [Option.bind_some, getD_get (show m + j - i + c < (swR (m - i) (m + j - i) c ys).length by omega), getD_get (show m - i + c < (swR (m - i) (m + j - i) c ys).length by omega)]
    rw [decide_eq_true (show m - i + c < (swR (m - i) (m + j - i) c ys).length by omega), cond_true, List.length_set, idx_nat (j := m + j - i + c) (by omega)]
    simp only [Option.bind_some, List.length_set]
    rw [decide_eq_true (show m + j - i + c < (swR (m - i) (m + j - i) c ys).length by omega), cond_true]
    rfl
theorem smv4.swap8 {F : Nat} {a s b m i : Nat} {dom : List Q → Bool} {G : List Q → Int} {ys : List Int} (hl : ys.length ≤ 60) (hi : i ≤ m) (hm : m + i ≤ ys.length) (hF : 200 < F) (ham : a ≤ m) (hb : b ≤ 60) (hs : s ≤ m) :
    smv4.L8 F F (smv4.t8 (m : Int) (i : Int) dom G (a : Int) (b : Int) (s : Int) 0 ys) (smv4.k8 F) = tailM ((8 : Nat) : Int) dom G (a : Int) (s : Int) (((a + b) / 2 : Nat) : Int) (((a + b) / 2 + m - s : Nat) : Int) (b : Int) (swR (m - i) m i ys) := by
  refine run_loop (N := i) (fun n c zs => smv4.L8 F n (smv4.t8 (m : Int) (i : Int) dom G (a : Int) (b : Int) (s : Int) (c : Int) zs) (smv4.k8 F)) (fun c zs => zs = swR (m - i) m c ys) ?_ ?_ F 0 ys (by omega) (by omega) rfl
  · rintro n zs rfl
    rw [smv4.s8, decide_eq_false (by omega), cond_false, halfV (by omega), wAdd (a := (a + b) / 2) (by omega), wSub (a := (a + b) / 2 + m) (by omega) (by omega)]
  · rintro n c zs hc rfl
    have hyl := swR_len (m - i) m c ys
    refine ⟨_, rfl, ?_⟩
    rw [smv4.s8, decide_eq_true (by omega), cond_true, wAdd (a := m) (b := c) (by omega), wSub hi (by omega), wAdd (a := m - i) (by omega), w1 (by omega), idx_nat (j := m + c) (by omega), idx_nat (j := m - i + c) (by omega)]
    simp only [Option.bind_some, getD_get (show m + c < (swR (m - i) m c ys).length by omega), getD_get (show m - i + c < (swR (m - i) m c ys).length by omega)]
    rw [decide_eq_true (show m - i + c < (swR (m - i) m c ys).length by omega), cond_true, List.length_set, idx_nat (j := m + c) (by omega)]
    simp only [Option.bind_some, List.length_set]
    rw [decide_eq_true (show m + c < (swR (m - i) m c ys).length by omega), cond_true]
    rfl
theorem smv4.rot {F : Nat} {a s b m : Nat} {dom : List Q → Bool} {G : List Q → Int} (hF : 200 < F) (ham : a ≤ m) (hb : b ≤ 60) (hs : s ≤ m) : ∀ (d n i j : Nat) (ys : List Int), i + j ≤ d → 0 < i → 0 < j → i ≤ m → m + j ≤ ys.length → ys.length ≤ 60 → d < n →
    smv4.L5 F n (smv4.t5 (m : Int) dom G (a : Int) (b : Int) (s : Int) (i : Int) (j : Int) ys) (smv4.k5 F) = tailM ((8 : Nat) : Int) dom G (a : Int) (s : Int) (((a + b) / 2 : Nat) : Int) (((a + b) / 2 + m - s : Nat) : Int) (b : Int) (rotM (m - i) m (m + j) ys) := by
  intro d
  induction d with
  | zero => intro n i j ys h1 h2; omega
  | succ d ih =>
    intro n i j ys h1 h2 h3 h4 h5 h6 h7
    obtain ⟨n, rfl⟩ : ∃ k, n = k + 1 := ⟨n - 1, by omega⟩
    rw [smv4.s5]
    by_cases e1 : i = j
    · subst e1
      rw [show ((i : Int) != (i : Int)) = false by simp, cond_false, smv4.swap8 h6 h4 h5 hF ham hb hs, rotM_eq h4 h5]
    · rw [show ((i : Int) != (j : Int)) = true by rw [bne_iff_ne]; omega, cond_true]
      by_cases e2 : i > j
      · rw [decide_eq_true (by omega), cond_true, smv4.swap6 h6 h4 e2 h5 hF, rotM_gt h4 e2 h5]
        exact ih n (i - j) j _ (by omega) (by omega) h3 (by omega) (by rw [swR_len]; omega) (by rw [swR_len]; omega) (by omega)
      · rw [decide_eq_false (by omega), cond_false, smv4.swap7 h6 h4 (by omega) h5 hF, rotM_lt h4 (by omega) h5]
        exact ih n i (j - i) _ (by omega) h2 (by omega) h4 (by rw [swR_len]; omega) (by rw [swR_len]; omega) (by omega)
theorem smv4.seek {F : Nat} {xs : List Int} {a m b r0 s0 : Nat} {dom : List Q → Bool} {G : List Q → Int} {da : List Int} (hd : domA dom xs = true) (hlt : ltG G = ltD da) (hl : xs.length ≤ 60) (h : MG da a m b xs) (ham : a + 1 < m) (hmb : m + 1 < b) (hsz : b ≤ a + 16) (hF : 200 < F)
    (hr : (m > (a + b) / 2 ∧ r0 = (a + b) / 2 ∧ s0 + b = (a + b) / 2 + m) ∨ (m ≤ (a + b) / 2 ∧ r0 = m ∧ s0 = a)) : ∀ (d n s r : Nat), r - s ≤ d → s0 ≤ s → s ≤ r → r ≤ r0 → (s = s0 ∨ ltD da (xs.getD ((a + b) / 2 + m - s) 0) (xs.getD (s - 1) 0) = false) → (r = r0 ∨ ltD da (xs.getD ((a + b) / 2 + m - 1 - r) 0) (xs.getD r 0) = true) → d < n →
    smv4.L4 F n (smv4.t4 (a : Int) (m : Int) (b : Int) dom G xs (s : Int) (r : Int)) (smv4.k4 F) = some ([], [[(.ints .i64 (segS (ltD da) a b xs))]]) := by
  have hb := h.bl
  have hfin : ∀ n s : Nat, s0 ≤ s → s ≤ r0 → (s = s0 ∨ ltD da (xs.getD ((a + b) / 2 + m - s) 0) (xs.getD (s - 1) 0) = false) → (s = r0 ∨ ltD da (xs.getD ((a + b) / 2 + m - 1 - s) 0) (xs.getD s 0) = true) → smv4.L4 F (n + 1) (smv4.t4 (a : Int) (m : Int) (b : Int) dom G xs (s : Int) (s : Int)) (smv4.k4 F) = some ([], [[(.ints .i64 (segS (ltD da) a b xs))]]) := by
    intro n s g1 g2 g3 g4
    have c1 : s = a ∨ (a + b) / 2 + m - s = b ∨ lexD da (xs.getD (s - 1) 0) (xs.getD ((a + b) / 2 + m - s) 0) := by
      rcases g3 with g3 | g3
      · omega
      · by_cases e : s = a
        · exact .inl e
        by_cases e' : (a + b) / 2 + m - s = b
        · exact .inr (.inl e')
        exact .inr (.inr (lt_lex' g3 (h.lr _ _ (by omega) (by omega) (by omega) (by omega))))
    have c2 : s = m ∨ (a + b) / 2 + m - s = m ∨ lexD da (xs.getD ((a + b) / 2 + m - s - 1) 0) (xs.getD s 0) := by
      rcases g4 with g4 | g4
      · omega
      · refine .inr (.inr ?_)
        rw [show (a + b) / 2 + m - s - 1 = (a + b) / 2 + m - 1 - s by omega]
        exact lt_lex g4
    obtain ⟨j1, j2, j3⟩ := mg_join (q := (a + b) / 2) (e := (a + b) / 2 + m - s) h (by omega) (by omega) (by omega) (by omega) (by omega) (by omega) (by omega) c1 c2
    have hrl := rotM_len (s := s) (m := m) (e := (a + b) / 2 + m - s) (xs := xs) (by omega) (by omega) (by omega)
    have htail := tail_ok (z := 8) hlt (perm_dom hd (rotM_perm (s := s) (m := m) (e := (a + b) / 2 + m - s) (by omega) (by omega))) (by omega) j1 j2 (by omega) (by omega)
    rw [j3] at htail
    rw [smv4.s4, decide_eq_false (by omega), cond_false, halfV (by omega), wAdd (a := (a + b) / 2) (by omega), wSub (a := (a + b) / 2 + m) (by omega) (by omega)]
    by_cases d1 : s < m
    · rw [decide_eq_true (p := (s : Int) < (m : Int)) (by omega), cond_true]
      by_cases d2 : m < (a + b) / 2 + m - s
      · rw [decide_eq_true (p := (m : Int) < (((a + b) / 2 + m - s : Nat) : Int)) (by omega), cond_true, wSub (a := m) (by omega) (by omega), wSub (a := (a + b) / 2 + m - s) (by omega) (by omega)]
        have := smv4.rot (F := F) (a := a) (s := s) (b := b) (m := m) (dom := dom) (G := G) hF (by omega) (by omega) (by omega) 100 F (m - s) ((a + b) / 2 + m - s - m) xs (by omega) (by omega) (by omega) (by omega) (by omega) hl (by omega)
        rw [show m - (m - s) = s by omega, show m + ((a + b) / 2 + m - s - m) = (a + b) / 2 + m - s by omega] at this
        rw [this]
        exact htail
      · rw [rotM_self (by omega) (by omega) (by omega) (.inr (by omega))] at htail
        rw [decide_eq_false (p := (m : Int) < (((a + b) / 2 + m - s : Nat) : Int)) (by omega), cond_false]
        exact htail
    · rw [rotM_self (by omega) (by omega) (by omega) (.inl (by omega))] at htail
      rw [decide_eq_false (p := (s : Int) < (m : Int)) (by omega), cond_false]
      exact htail
  intro d
  induction d with
  | zero =>
    intro n s r h1 h2 h3 h4 h5 h6 h7
    obtain ⟨n, rfl⟩ : ∃ k, n = k + 1 := ⟨n - 1, by omega⟩
    obtain rfl : s = r := by omega
    exact hfin n s h2 h4 h5 h6
  | succ d ih =>
    intro n s r h1 h2 h3 h4 h5 h6 h7
    obtain ⟨n, rfl⟩ : ∃ k, n = k + 1 := ⟨n - 1, by omega⟩
    by_cases hj : s < r
    · have hh : (s + r) / 2 < xs.length := by omega
      have hp : (a + b) / 2 + m - 1 - (s + r) / 2 < xs.length := by omega
      have hdm := domA_get hd (mem_getD hp) (mem_getD hh)
      have hlx := ltG_at hlt (xs.getD ((a + b) / 2 + m - 1 - (s + r) / 2) 0) (xs.getD ((s + r) / 2) 0)
      rw [smv4.s4, decide_eq_true (by omega), cond_true, halfV (by omega), halfV (by omega), wAdd (by omega), wS (x := (((a + b) / 2 + m : Nat) : Int) - 1) (by omega) (by omega), wS (x := (((a + b) / 2 + m : Nat) : Int) - 1 - (((s + r) / 2 : Nat) : Int)) (by omega) (by omega), show (((a + b) / 2 + m : Nat) : Int) - 1 - (((s + r) / 2 : Nat) : Int) = (((a + b) / 2 + m - 1 - (s + r) / 2 : Nat) : Int) by omega, idx_nat hh, idx_nat hp]
      simp only [Option.bind_some, getD_get hh, getD_get hp, hdm, hlx, cond_true]
      cases hc : ltD da (xs.getD ((a + b) / 2 + m - 1 - (s + r) / 2) 0) (xs.getD ((s + r) / 2) 0) with
      | false =>
        rw [Bool.not_false, cond_true, w1 (by omega)]
        exact ih n ((s + r) / 2 + 1) r (by omega) (by omega) (by omega) h4 (.inr (by rw [Nat.add_sub_cancel, show (a + b) / 2 + m - ((s + r) / 2 + 1) = (a + b) / 2 + m - 1 - (s + r) / 2 by omega]; exact hc)) h6 (by omega)
      | true =>
        rw [Bool.not_true, cond_false]
        exact ih n s ((s + r) / 2) (by omega) h2 (by omega) (by omega) h5 (.inr hc) (by omega)
    · obtain rfl : s = r := by omega
      exact hfin n s h2 h4 h5 h6
theorem smv4.ok : CallSpec Try.prog smv4.E := smv4.ok_of (by simp [smv4.X, smv3.ok]) fun xs a m b dom G h => by
  obtain ⟨F, hF⟩ : ∃ F : Nat, 200 < F := ⟨201, by omega⟩
  refine ⟨F, ?_⟩
  simp only [Bool.and_eq_true, decide_eq_true_eq] at h
  obtain ⟨⟨⟨⟨⟨⟨hl, hd⟩, hu⟩, h0⟩, h1⟩, h2⟩, h4⟩ := h
  obtain ⟨a, rfl⟩ : ∃ n : Nat, a = n := ⟨a.toNat, by omega⟩
  obtain ⟨m, rfl⟩ : ∃ n : Nat, m = n := ⟨m.toNat, by omega⟩
  obtain ⟨b, rfl⟩ : ∃ n : Nat, b = n := ⟨b.toNat, by omega⟩
  obtain ⟨da, hlt, hm⟩ := mgW_inv hu
  have hb := hm.bl
  rw [smv4.e, wS (x := (m : Int) - (a : Int)) (by omega) (by omega), wS (x := (b : Int) - (m : Int)) (by omega) (by omega), Int.toNat_natCast, Int.toNat_natCast, hlt]
  by_cases e1 : m = a + 1
  · subst e1
    rw [show ((((a + 1 : Nat) : Int) - (a : Int)) == 1) = true from beq_iff_eq.2 (by omega), cond_true]
    exact smv4.left hd hlt hl hm hF 100 F (a + 1) b (by omega) (by omega) (by omega) (by omega) (.inl rfl) (.inl rfl) (by omega)
  rw [show (((m : Int) - (a : Int)) == 1) = false from beq_eq_false_iff_ne.2 (by omega), cond_false]
  by_cases e2 : b = m + 1
  · subst e2
    rw [show ((((m + 1 : Nat) : Int) - (m : Int)) == 1) = true from beq_iff_eq.2 (by omega), cond_true]
    exact smv4.right hd hlt hl hm hF 100 F a m (by omega) (by omega) (by omega) (by omega) (.inl rfl) (.inl rfl) (by omega)
  rw [show (((b : Int) - (m : Int)) == 1) = false from beq_eq_false_iff_ne.2 (by omega), cond_false]
  rw [halfV (by omega)]
  by_cases e3 : m > (a + b) / 2
  · rw [decide_eq_true (by omega), cond_true, wAdd (by omega), wSub (a := (a + b) / 2 + m) (by omega) (by omega)]
    exact smv4.seek (s0 := (a + b) / 2 + m - b) hd hlt hl hm (by omega) (by omega) (by omega) hF (.inl ⟨e3, rfl, by omega⟩) 100 F _ _ (by omega) (by omega) (by omega) (by omega) (.inl rfl) (.inl rfl) (by omega)
  · rw [decide_eq_false (by omega), cond_false]
    exact smv4.seek (s0 := a) hd hlt hl hm (by omega) (by omega) (by omega) hF (.inr ⟨by omega, rfl, rfl⟩) 100 F _ _ (by omega) (by omega) (by omega) (by omega) (.inl rfl) (.inl rfl) (by omega)

namespace smv5
noncomputable def E : Entry := ⟨42, false, true, fun | [.rows true [(.i64, xs)], .d (.int .i64 a), .d (.int .i64 m), .d (.int .i64 b), .d (.fn false dom G)] => decide ((xs : List Int).length ≤ 60) && domA dom xs && mgW G xs a m b && decide (0 ≤ a) && decide (a < m) && decide (m < b) && decide (b - a ≤ 32) | _ => false, fun | [.rows true [(.i64, xs)], .d (.int .i64 a), .d (.int .i64 m), .d (.int .i64 b), .d (.fn false dom G)] => ([], [[(.ints .i64 (segS (ltG G) a.toNat b.toNat xs))]]) | _ => ([], []), fun _ => [], false, fun _ => none⟩
end smv5
namespace smv5
noncomputable def X : List Entry := [smv4.E]
noncomputable def I : List Inl := [⟨42, Try.f42, ⟨[], [(40, [5, 6, 7, 8, 9, 10, 11, 12, 13, 14, 15, 16, 17, 19, 21, 22, 23, 25, 26, 27, 28, 29, 30, 31, 32, 33, 34, 35, 36, 37, 38, 39, 40, 41, 42, 43, 44, 45, 46, 47, 48, 49, 50, 51, 52, 53, 54, 55, 56, 57, 58, 59, 60, 61, 62, 63, 64, 65, 66, 67, 68, 69, 70, 71, 72, 73, 74, 75, 76, 77, 78, 79, 80, 81, 82, 83, 84, 85, 86, 87, 88, 89, 90, 91, 92, 93, 94, 95, 96, 97, 98, 99, 100, 101, 102, 103, 104, 105, 106, 107, 108, 109, 110, 111, 112, 113, 114, 115, 116, 117, 118, 119, 120, 121, 122, 123, 124, 125, 126, 127, 128, 129, 130, 131, 132, 133, 134, 135, 136, 137, 138, 139, 140, 141, 142, 143, 144, 145, 146, 147, 148, 149, 150, 151, 152, 153, 154, 155, 156, 157, 158, 159, 160, 161, 162, 163, 164, 165, 166, 167, 168, 169, 170, 171, 172, 173, 174, 175, 176, 177, 178, 179, 180, 181, 182, 183, 184, 185, 186, 187, 188, 189, 190, 191, 192, 193, 194, 195, 196, 197, 198, 199, 200, 201, 202, 203, 204, 205, 206, 207, 208, 209, 210, 211, 212, 213, 214, 215, 216, 217, 218, 219]), (1000003, [2, 3, 5, 6, 7, 8, 9, 12, 13, 14, 15, 16, 17, 18, 19, 20, 21, 22, 23, 24, 25, 26, 27, 28, 29, 30, 31, 32, 33, 34, 35, 36, 37, 38, 39, 40, 41, 42, 43, 44, 45, 46, 47, 48, 49, 50, 51, 52, 53, 54, 55, 56, 57, 58, 59, 60, 61, 62, 63, 64, 65, 66, 67, 68, 69, 70, 71, 72, 73, 74, 75, 76, 77, 78, 79, 80, 81, 82, 83, 84, 85, 86, 87, 88, 89, 90, 91, 92, 93, 94, 95, 96, 97, 98, 99, 100, 101, 102, 103, 104, 105, 106, 107, 108, 109, 110, 111, 112, 113, 114, 115, 116, 117, 118, 119, 120, 121, 122, 123, 124, 125, 126, 127, 128, 129, 130, 131, 132, 133, 134, 135, 136, 137, 138, 139, 140, 141, 142, 143, 144, 145, 146, 147, 148, 149, 150, 151, 152, 153, 154, 155, 156, 157, 158, 159, 160, 161, 162, 163, 164, 165, 166, 167, 168, 169, 170, 171, 172, 173, 174, 175, 176, 177, 178, 179, 180, 181, 182, 183, 184, 185, 186, 187, 188, 189, 190, 191, 192, 193, 194, 195, 196, 197, 198, 199, 200, 201, 202, 203, 204, 205, 206, 207, 208, 209, 210, 211, 212, 213, 214, 215, 216, 217, 218, 219]), (1000009, [1, 2, 3, 4, 5, 6, 7, 8, 9, 11, 12, 14, 15, 16, 17, 18, 19, 20, 21, 22, 23, 24, 25, 26, 27, 28, 29, 30, 31, 32, 33, 34, 35, 36, 37, 38, 39, 40, 41, 42, 43, 44, 45, 46, 47, 48, 49, 50, 51, 52, 53, 54, 55, 56, 57, 58, 59, 60, 61, 62, 63, 64, 65, 66, 67, 68, 69, 70, 71, 72, 73, 74, 75, 76, 77, 78, 79, 80, 81, 82, 83, 84, 85, 86, 87, 88, 89, 90, 91, 92, 93, 94, 95, 96, 97, 98, 99, 100, 101, 102, 103, 104, 105, 106, 107, 108, 109, 110, 111, 112, 113, 114, 115, 116, 117, 118, 119, 120, 121, 122, 123, 124, 125, 126, 127, 128, 129, 130, 131, 132, 133, 134, 135, 136, 137, 138, 139, 140, 141, 142, 143, 144, 145, 146, 147, 148, 149, 150, 151, 152, 153, 154, 155, 156, 157, 158, 159, 160, 161, 162, 163, 164, 165, 166, 167, 168, 169, 170, 171, 172, 173, 174, 175, 176, 177, 178, 179, 180, 181, 182, 183, 184, 185, 186, 187, 188, 189, 190, 191, 192, 193, 194, 195, 196, 197, 198, 199, 200, 201, 202, 203, 204, 205, 206, 207, 208, 209, 210, 211, 212, 213, 214, 215, 216, 217, 218, 219]), (1000015, [1, 3, 5, 6, 7, 8, 9, 10, 11, 12, 13, 16, 17, 18, 19, 20, 21, 22, 23, 24, 25, 26, 27, 28, 29, 30, 31, 32, 33, 34, 35, 36, 37, 38, 39, 40, 41, 42, 43, 44, 45, 46, 47, 48, 49, 50, 51, 52, 53, 54, 55, 56, 57, 58, 59, 60, 61, 62, 63, 64, 65, 66, 67, 68, 69, 70, 71, 72, 73, 74, 75, 76, 77, 78, 79, 80, 81, 82, 83, 84, 85, 86, 87, 88, 89, 90, 91, 92, 93, 94, 95, 96, 97, 98, 99, 100, 101, 102, 103, 104, 105, 106, 107, 108, 109, 110, 111, 112, 113, 114, 115, 116, 117, 118, 119, 120, 121, 122, 123, 124, 125, 126, 127, 128, 129, 130, 131, 132, 133, 134, 135, 136, 137, 138, 139, 140, 141, 142, 143, 144, 145, 146, 147, 148, 149, 150, 151, 152, 153, 154, 155, 156, 157, 158, 159, 160, 161, 162, 163, 164, 165, 166, 167, 168, 169, 170, 171, 172, 173, 174, 175, 176, 177, 178, 179, 180, 181, 182, 183, 184, 185, 186, 187, 188, 189, 190, 191, 192, 193, 194, 195, 196, 197, 198, 199, 200, 201, 202, 203, 204, 205, 206, 207, 208, 209, 210, 211, 212, 213, 214, 215, 216, 217, 218, 219]), (1000021, [1, 2, 3, 4, 5, 6, 7, 8, 9, 10, 11, 12, 13, 15, 16, 18, 19, 20, 21, 22, 23, 24, 25, 26, 27, 28, 29, 30, 31, 32, 33, 34, 35, 36, 37, 38, 39, 40, 41, 42, 43, 44, 45, 46, 47, 48, 49, 50, 51, 52, 53, 54, 55, 56, 57, 58, 59, 60, 61, 62, 63, 64, 65, 66, 67, 68, 69, 70, 71, 72, 73, 74, 75, 76, 77, 78, 79, 80, 81, 82, 83, 84, 85, 86, 87, 88, 89, 90, 91, 92, 93, 94, 95, 96, 97, 98, 99, 100, 101, 102, 103, 104, 105, 106, 107, 108, 109, 110, 111, 112, 113, 114, 115, 116, 117, 118, 119, 120, 121, 122, 123, 124, 125, 126, 127, 128, 129, 130, 131, 132, 133, 134, 135, 136, 137, 138, 139, 140, 141, 142, 143, 144, 145, 146, 147, 148, 149, 150, 151, 152, 153, 154, 155, 156, 157, 158, 159, 160, 161, 162, 163, 164, 165, 166, 167, 168, 169, 170, 171, 172, 173, 174, 175, 176, 177, 178, 179, 180, 181, 182, 183, 184, 185, 186, 187, 188, 189, 190, 191, 192, 193, 194, 195, 196, 197, 198, 199, 200, 201, 202, 203, 204, 205, 206, 207, 208, 209, 210, 211, 212, 213, 214, 215, 216, 217, 218, 219]), (1000033, [5, 6, 7, 8, 9, 10, 11, 12, 13, 14, 15, 16, 17, 23, 24, 25, 26, 27, 28, 29, 30, 31, 32, 33, 34, 35, 36, 37, 38, 39, 40, 41, 42, 43, 44, 45, 46, 47, 48, 49, 50, 51, 52, 53, 54, 55, 56, 57, 58, 59, 60, 61, 62, 63, 64, 65, 66, 67, 68, 69, 70, 71, 72, 73, 74, 75, 76, 77, 78, 79, 80, 81, 82, 83, 84, 85, 86, 87, 88, 89, 90, 91, 92, 93, 94, 95, 96, 97, 98, 99, 100, 101, 102, 103, 104, 105, 106, 107, 108, 109, 110, 111, 112, 113, 114, 115, 116, 117, 118, 119, 120, 121, 122, 123, 124, 125, 126, 127, 128, 129, 130, 131, 132, 133, 134, 135, 136, 137, 138, 139, 140, 141, 142, 143, 144, 145, 146, 147, 148, 149, 150, 151, 152, 153, 154, 155, 156, 157, 158, 159, 160, 161, 162, 163, 164, 165, 166, 167, 168, 169, 170, 171, 172, 173, 174, 175, 176, 177, 178, 179, 180, 181, 182, 183, 184, 185, 186, 187, 188, 189, 190, 191, 192, 193, 194, 195, 196, 197, 198, 199, 200, 201, 202, 203, 204, 205, 206, 207, 208, 209, 210, 211, 212, 213, 214, 215, 216, 217, 218, 219])], [], [(5, [0, 1, 2, 5, 6, 3, 4, 7, 8, 9, 10]), (11, [0, 1, 2, 3, 4, 5, 6, 7, 10, 11, 8, 9, 12, 13, 14, 15, 16, 17]), (17, [0, 1, 2, 5, 6, 3, 4, 7, 8, 9, 10, 11]), (23, [0, 1, 2, 3, 4, 5, 6, 7, 10, 11, 8, 9, 12, 13, 14, 15, 16, 17]), (35, [0, 1, 2, 3, 4, 7, 8, 5, 6, 9, 10, 11, 12, 13])], [], []⟩⟩, ⟨44, Try.f44, ⟨[], [(4, [1, 3, 5, 6, 7, 8, 9, 12, 13, 14, 15, 16, 17, 18, 19, 20, 21, 22, 23, 24, 25, 26, 27, 28, 29, 30, 31, 32, 33, 34, 35, 36, 37, 38, 39, 40, 41, 42, 43, 44, 45, 46, 47, 48, 49, 50, 51, 52, 53, 54, 55, 56, 57]), (6, [1, 3, 5, 6, 7, 8, 9, 12, 13, 14, 15, 16, 17, 18, 19, 20, 21, 22, 23, 24, 25, 26, 27, 28, 29, 30, 31, 32, 33, 34, 35, 36, 37, 38, 39, 40, 41, 42, 43, 44, 45, 46, 47, 48, 49, 50, 51, 52, 53, 54, 55, 56, 57]), (8, [1, 3, 5, 6, 7, 8, 9, 11, 12, 13, 14, 15, 16, 17, 18, 19, 20, 21, 22, 23, 24, 25, 26, 27, 28, 29, 30, 31, 32, 33, 34, 35, 36, 37, 38, 39, 40, 41, 42, 43, 44, 45, 46, 47, 48, 49, 50, 51, 52, 53, 54, 55, 56, 57]), (1000002, [1, 3, 5, 6, 7, 8, 9, 12, 13, 14, 15, 16, 17, 18, 19, 20, 21, 22, 23, 24, 25, 26, 27, 28, 29, 30, 31, 32, 33, 34, 35, 36, 37, 38, 39, 40, 41, 42, 43, 44, 45, 46, 47, 48, 49, 50, 51, 52, 53, 54, 55, 56, 57])], [], [], [], []⟩⟩, ⟨45, Try.f45, ⟨[], [(1000001, [4, 5, 6, 7, 8, 9, 11, 12, 13, 14, 15, 16, 17, 18, 19, 20, 21, 22, 23, 24, 25, 26, 27, 28, 29, 30, 31, 32, 33, 34, 35, 36, 37])], [], [(3, [0, 1, 2, 3, 4, 5, 6, 7, 8, 9, 10, 11, 14, 15, 16, 17, 12, 13, 18, 19, 20, 21, 22, 23])], [], []⟩⟩]
theorem I_ok : ∀ i ∈ I, Try.prog.funcs[i.f]? = some i.fn ∧ (i.fn.name == "runtime.NumGoroutine") = false := by
  intro i hi
  simp only [I, List.mem_cons, List.not_mem_nil, or_false] at hi
  rcases hi with rfl | rfl | rfl
  all_goals exact ⟨by kernel_rfl, by kernel_rfl⟩
noncomputable abbrev L0 (fuel n : Nat) (s : St) (k : Kont) := lAt Try.prog X I fuel false 4 false 42 (bodyOf Try.f42) [0, 1, 0, 1, 1, 0, 0] n s k
noncomputable abbrev k0  (fuel : Nat) : Kont := (kAt Try.prog X I fuel false 4 false 42 (bodyOf Try.f42) [0, 1, 0, 1, 1, 0, 0] [] (endK Try.prog Try.f42))
noncomputable def t0 (p1 : Int) (p4d : List Q → Bool) (p4g : List Q → Int) (p0 : List Int) (x0q3 : Int) (x0q4 : Int) : St := ⟨[(.all 1000000000 1), (.imm (.int .i64 p1)), .dead, .dead, (.imm (.fn false p4d p4g)), .dead, .dead, .dead, .dead, .dead, (.imm (.int .i64 x0q3)), (.imm (.int .i64 x0q4)), .dead, .dead, .dead, .dead, .dead, .dead, .dead, .dead, .dead, .dead, .dead, .dead, .dead, .dead, .dead, .dead, .dead, .dead, .dead, .dead, .dead, .dead, .dead, .dead, .dead, .dead, .dead, .dead, .dead, .dead, .dead, .dead, .dead, .dead, .dead, .dead, .dead, .dead, .dead, .dead, .dead, .dead, .dead, .dead, .dead, .dead, .dead, .dead, .dead, .dead, .dead, .dead, .dead, .dead, .dead, .dead, .dead, .dead, .dead, .dead, .dead, .dead, .dead, .dead, .dead, .dead, .dead, .dead, .dead, .dead, .dead, .dead, .dead, .dead, .dead, .dead, .dead, .dead, .dead, .dead, .dead, .dead, .dead, .dead, .dead, .dead, .dead, .dead, .dead, .dead, .dead, .dead, .dead, .dead, .dead, .dead, .dead, .dead, .dead, .dead, .dead, .dead, .dead, .dead, .dead, .dead, .dead, .dead, .dead, .dead, .dead, .dead, .dead, .dead, .dead, .dead, .dead, .dead, .dead, .dead, .dead, .dead, .dead, .dead, .dead, .dead, .dead, .dead, .dead, .dead, .dead, .dead, .dead, .dead, .dead, .dead, .dead, .dead, .dead, .dead, .dead, .dead, .dead, .dead, .dead, .dead, .dead, .dead, .dead, .dead, .dead, .dead, .dead, .dead, .dead, .dead, .dead, .dead, .dead, .dead, .dead, .dead, .dead, .dead, .dead, .dead, .dead, .dead, .dead, .dead, .dead, .dead, .dead, .dead, .dead, .dead, .dead, .dead, .dead, .dead, .dead, .dead, .dead, .dead, .dead, .dead, .dead, .dead, .dead, .dead, .dead, .dead, .dead, .dead, .dead, .dead, .dead, .dead, .dead, .dead, .dead, .dead, .dead, .dead, .dead, .dead, .dead, .dead], hOf [(1000000000, (.ints .i64 p0))], [(.all 1000000000 1)], []⟩
noncomputable abbrev L1 (fuel n : Nat) (s : St) (k : Kont) := lAt Try.prog X I fuel false 4 false 42 (bodyOf Try.f42) [0, 1, 0, 1, 1, 1, 0, 1, 0] n s k
noncomputable abbrev k1  (fuel : Nat) : Kont := (kAt Try.prog X I fuel false 4 false 42 (bodyOf Try.f42) [0, 1, 0, 1, 1, 1, 0, 1, 0] [] (endK Try.prog Try.f42))
noncomputable def t1 (x0q3 : Int) (x1q1 : Int) (x1q2 : List Int) : St := ⟨[(.all 1000000000 1), .dead, .dead, .dead, .dead, .dead, .dead, .dead, .dead, .dead, (.imm (.int .i64 x0q3)), .dead, .dead, (.imm (.int .i64 x1q1)), .dead, .dead, .dead, .dead, .dead, .dead, .dead, .dead, .dead, .dead, .dead, .dead, .dead, .dead, .dead, .dead, .dead, .dead, .dead, .dead, .dead, .dead, .dead, .dead, .dead, .dead, .dead, .dead, .dead, .dead, .dead, .dead, .dead, .dead, .dead, .dead, .dead, .dead, .dead, .dead, .dead, .dead, .dead, .dead, .dead, .dead, .dead, .dead, .dead, .dead, .dead, .dead, .dead, .dead, .dead, .dead, .dead, .dead, .dead, .dead, .dead, .dead, .dead, .dead, .dead, .dead, .dead, .dead, .dead, .dead, .dead, .dead, .dead, .dead, .dead, .dead, .dead, .dead, .dead, .dead, .dead, .dead, .dead, .dead, .dead, .dead, .dead, .dead, .dead, .dead, .dead, .dead, .dead, .dead, .dead, .dead, .dead, .dead, .dead, .dead, .dead, .dead, .dead, .dead, .dead, .dead, .dead, .dead, .dead, .dead, .dead, .dead, .dead, .dead, .dead, .dead, .dead, .dead, .dead, .dead, .dead, .dead, .dead, .dead, .dead, .dead, .dead, .dead, .dead, .dead, .dead, .dead, .dead, .dead, .dead, .dead, .dead, .dead, .dead, .dead, .dead, .dead, .dead, .dead, .dead, .dead, .dead, .dead, .dead, .dead, .dead, .dead, .dead, .dead, .dead, .dead, .dead, .dead, .dead, .dead, .dead, .dead, .dead, .dead, .dead, .dead, .dead, .dead, .dead, .dead, .dead, .dead, .dead, .dead, .dead, .dead, .dead, .dead, .dead, .dead, .dead, .dead, .dead, .dead, .dead, .dead, .dead, .dead, .dead, .dead, .dead, .dead, .dead, .dead, .dead, .dead, .dead, .dead, .dead, .dead, .dead, .dead, .dead, .dead, .dead, .dead], hOf [(1000000000, (.ints .i64 x1q2))], [(.all 1000000000 1)], []⟩
noncomputable abbrev L2 (fuel n : Nat) (s : St) (k : Kont) := lAt Try.prog X I fuel false 4 false 42 (bodyOf Try.f42) [1, 0, 1, 0, 1, 1, 0, 0] n s k
noncomputable abbrev k2  (fuel : Nat) : Kont := (kAt Try.prog X I fuel false 4 false 42 (bodyOf Try.f42) [1, 0, 1, 0, 1, 1, 0, 0] [] (endK Try.prog Try.f42))
noncomputable def t2 (p2 : Int) (p4d : List Q → Bool) (p4g : List Q → Int) (p0 : List Int) (x2q3 : Int) (x2q4 : Int) : St := ⟨[(.all 1000000000 1), .dead, (.imm (.int .i64 p2)), .dead, (.imm (.fn false p4d p4g)), .dead, .dead, .dead, .dead, .dead, .dead, .dead, .dead, .dead, (.imm (.int .i64 x2q3)), (.imm (.int .i64 x2q4)), .dead, .dead, .dead, .dead, .dead, .dead, .dead, .dead, .dead, .dead, .dead, .dead, .dead, .dead, .dead, .dead, .dead, .dead, .dead, .dead, .dead, .dead, .dead, .dead, .dead, .dead, .dead, .dead, .dead, .dead, .dead, .dead, .dead, .dead, .dead, .dead, .dead, .dead, .dead, .dead, .dead, .dead, .dead, .dead, .dead, .dead, .dead, .dead, .dead, .dead, .dead, .dead, .dead, .dead, .dead, .dead, .dead, .dead, .dead, .dead, .dead, .dead, .dead, .dead, .dead, .dead, .dead, .dead, .dead, .dead, .dead, .dead, .dead, .dead, .dead, .dead, .dead, .dead, .dead, .dead, .dead, .dead, .dead, .dead, .dead, .dead, .dead, .dead, .dead, .dead, .dead, .dead, .dead, .dead, .dead, .dead, .dead, .dead, .dead, .dead, .dead, .dead, .dead, .dead, .dead, .dead, .dead, .dead, .dead, .dead, .dead, .dead, .dead, .dead, .dead, .dead, .dead, .dead, .dead, .dead, .dead, .dead, .dead, .dead, .dead, .dead, .dead, .dead, .dead, .dead, .dead, .dead, .dead, .dead, .dead, .dead, .dead, .dead, .dead, .dead, .dead, .dead, .dead, .dead, .dead, .dead, .dead, .dead, .dead, .dead, .dead, .dead, .dead, .dead, .dead, .dead, .dead, .dead, .dead, .dead, .dead, .dead, .dead, .dead, .dead, .dead, .dead, .dead, .dead, .dead, .dead, .dead, .dead, .dead, .dead, .dead, .dead, .dead, .dead, .dead, .dead, .dead, .dead, .dead, .dead, .dead, .dead, .dead, .dead, .dead, .dead, .dead, .dead, .dead, .dead, .dead, .dead, .dead, .dead, .dead, .dead, .dead, .dead, .dead], hOf [(1000000000, (.ints .i64 p0))], [(.all 1000000000 1)], []⟩
noncomputable abbrev L3 (fuel n : Nat) (s : St) (k : Kont) := lAt Try.prog X I fuel false 4 false 42 (bodyOf Try.f42) [1, 0, 1, 0, 1, 1, 1, 0, 1, 0] n s k
noncomputable abbrev k3  (fuel : Nat) : Kont := (kAt Try.prog X I fuel false 4 false 42 (bodyOf Try.f42) [1, 0, 1, 0, 1, 1, 1, 0, 1, 0] [] (endK Try.prog Try.f42))
noncomputable def t3 (x2q3 : Int) (x3q1 : Int) (x3q2 : List Int) : St := ⟨[(.all 1000000000 1), .dead, .dead, .dead, .dead, .dead, .dead, .dead, .dead, .dead, .dead, .dead, .dead, .dead, (.imm (.int .i64 x2q3)), .dead, .dead, (.imm (.int .i64 x3q1)), .dead, .dead, .dead, .dead, .dead, .dead, .dead, .dead, .dead, .dead, .dead, .dead, .dead, .dead, .dead, .dead, .dead, .dead, .dead, .dead, .dead, .dead, .dead, .dead, .dead, .dead, .dead, .dead, .dead, .dead, .dead, .dead, .dead, .dead, .dead, .dead, .dead, .dead, .dead, .dead, .dead, .dead, .dead, .dead, .dead, .dead, .dead, .dead, .dead, .dead, .dead, .dead, .dead, .dead, .dead, .dead, .dead, .dead, .dead, .dead, .dead, .dead, .dead, .dead, .dead, .dead, .dead, .dead, .dead, .dead, .dead, .dead, .dead, .dead, .dead, .dead, .dead, .dead, .dead, .dead, .dead, .dead, .dead, .dead, .dead, .dead, .dead, .dead, .dead, .dead, .dead, .dead, .dead, .dead, .dead, .dead, .dead, .dead, .dead, .dead, .dead, .dead, .dead, .dead, .dead, .dead, .dead, .dead, .dead, .dead, .dead, .dead, .dead, .dead, .dead, .dead, .dead, .dead, .dead, .dead, .dead, .dead, .dead, .dead, .dead, .dead, .dead, .dead, .dead, .dead, .dead, .dead, .dead, .dead, .dead, .dead, .dead, .dead, .dead, .dead, .dead, .dead, .dead, .dead, .dead, .dead, .dead, .dead, .dead, .dead, .dead, .dead, .dead, .dead, .dead, .dead, .dead, .dead, .dead, .dead, .dead, .dead, .dead, .dead, .dead, .dead, .dead, .dead, .dead, .dead, .dead, .dead, .dead, .dead, .dead, .dead, .dead, .dead, .dead, .dead, .dead, .dead, .dead, .dead, .dead, .dead, .dead, .dead, .dead, .dead, .dead, .dead, .dead, .dead, .dead, .dead, .dead, .dead, .dead, .dead, .dead, .dead], hOf [(1000000000, (.ints .i64 x3q2))], [(.all 1000000000 1)], []⟩
noncomputable abbrev L4 (fuel n : Nat) (s : St) (k : Kont) := lAt Try.prog X I fuel false 4 false 42 (bodyOf Try.f42) [1, 1, 1, 1, 1, 1, 1, 0, 0] n s k
noncomputable abbrev k4  (fuel : Nat) : Kont := (kAt Try.prog X I fuel false 4 false 42 (bodyOf Try.f42) [1, 1, 1, 1, 1, 1, 1, 0, 0] [] (endK Try.prog Try.f42))
noncomputable def t4 (p1 : Int) (p2 : Int) (p3 : Int) (p4d : List Q → Bool) (p4g : List Q → Int) (p0 : List Int) (x4q7 : Int) (x4q8 : Int) : St := ⟨[(.all 1000000000 1), (.imm (.int .i64 p1)), (.imm (.int .i64 p2)), (.imm (.int .i64 p3)), (.imm (.fn false p4d p4g)), .dead, .dead, .dead, .dead, .dead, .dead, .dead, .dead, .dead, .dead, .dead, .dead, .dead, (.imm (.int .i64 (halfI p1 p3))), (.imm (.int .i64 (IntKind.wrap .i64 ((halfI p1 p3) + p2)))), (.imm (.int .i64 x4q7)), (.imm (.int .i64 x4q8)), (.imm (.int .i64 (IntKind.wrap .i64 ((IntKind.wrap .i64 ((halfI p1 p3) + p2)) - 1)))), .dead, .dead, .dead, .dead, .dead, .dead, .dead, .dead, .dead, .dead, .dead, .dead, .dead, .dead, .dead, .dead, .dead, .dead, .dead, .dead, .dead, .dead, .dead, .dead, .dead, .dead, .dead, .dead, .dead, .dead, .dead, .dead, .dead, .dead, .dead, .dead, .dead, .dead, .dead, .dead, .dead, .dead, .dead, .dead, .dead, .dead, .dead, .dead, .dead, .dead, .dead, .dead, .dead, .dead, .dead, .dead, .dead, .dead, .dead, .dead, .dead, .dead, .dead, .dead, .dead, .dead, .dead, .dead, .dead, .dead, .dead, .dead, .dead, .dead, .dead, .dead, .dead, .dead, .dead, .dead, .dead, .dead, .dead, .dead, .dead, .dead, .dead, .dead, .dead, .dead, .dead, .dead, .dead, .dead, .dead, .dead, .dead, .dead, .dead, .dead, .dead, .dead, .dead, .dead, .dead, .dead, .dead, .dead, .dead, .dead, .dead, .dead, .dead, .dead, .dead, .dead, .dead, .dead, .dead, .dead, .dead, .dead, .dead, .dead, .dead, .dead, .dead, .dead, .dead, .dead, .dead, .dead, .dead, .dead, .dead, .dead, .dead, .dead, .dead, .dead, .dead, .dead, .dead, .dead, .dead, .dead, .dead, .dead, .dead, .dead, .dead, .dead, .dead, .dead, .dead, .dead, .dead, .dead, .dead, .dead, .dead, .dead, .dead, .dead, .dead, .dead, .dead, .dead, .dead, .dead, .dead, .dead, .dead, .dead, .dead, .dead, .dead, .dead, .dead, .dead, .dead, .dead, .dead, .dead, .dead, .dead, .dead, .dead, .dead, .dead, .dead, .dead, .dead, .dead, .dead, .dead, .dead], hOf [(1000000000, (.ints .i64 p0))], [(.all 1000000000 1)], []⟩
noncomputable abbrev L5 (fuel n : Nat) (s : St) (k : Kont) := lAt Try.prog X I fuel false 3 false 44 (bodyOf Try.f44) [1, 1, 0, 0] n s k
noncomputable abbrev k5  (fuel : Nat) : Kont := (kAt Try.prog X I fuel false 3 false 44 (bodyOf Try.f44) [1, 1, 0, 0] [] (endFn Try.prog Try.f44 220 (kOp Try.prog X I fuel false 4 42 (cAt (bodyOf Try.f42) [1, 1, 1, 1, 1, 1, 1, 1, 1, 0, 1, 0]) 5 (kAt Try.prog X I fuel false 4 false 42 (bodyOf Try.f42) [1, 1, 1, 1, 1, 1, 1, 1, 1, 0, 1, 0] [] (endK Try.prog Try.f42)))))
noncomputable def t5 (p2 : Int) (p4d : List Q → Bool) (p4g : List Q → Int) (p1 : Int) (p3 : Int) (x4q7 : Int) (x5q3 : Int) (x5q4 : Int) (x5q5 : List Int) : St := ⟨[(.all 1000000000 1), .dead, (.imm (.int .i64 p2)), .dead, (.imm (.fn false p4d p4g)), .dead, .dead, .dead, .dead, .dead, (.imm (.int .i64 x5q3)), (.imm (.int .i64 x5q4)), .dead, .dead, .dead, .dead, .dead, .dead, .dead, .dead, .dead, .dead, .dead, .dead, .dead, .dead, .dead, .dead, .dead, .dead, .dead, .dead, .dead, .dead, .dead, .dead, .dead, .dead, .dead, .dead, .dead, .dead, .dead, .dead, .dead, .dead, .dead, .dead, .dead, .dead, .dead, .dead, .dead, .dead, .dead, .dead, .dead, .dead], hOf [(1000000000, (.ints .i64 x5q5))], [(.all 1000000000 1), (.imm (.int .i64 p1)), (.imm (.int .i64 p2)), (.imm (.int .i64 p3)), (.imm (.fn false p4d p4g)), .dead, .dead, .dead, .dead, .dead, .dead, .dead, .dead, .dead, .dead, .dead, .dead, .dead, (.imm (.int .i64 (halfI p1 p3))), .dead, (.imm (.int .i64 x4q7)), .dead, .dead, .dead, (.imm (.int .i64 (IntKind.wrap .i64 ((IntKind.wrap .i64 ((halfI p1 p3) + p2)) - x4q7)))), .dead, .dead, .dead, .dead, .dead, .dead, .dead, .dead, .dead, .dead, .dead, .dead, .dead, .dead, .dead, .dead, .dead, .dead, .dead, .dead, .dead, .dead, .dead, .dead, .dead, .dead, .dead, .dead, .dead, .dead, .dead, .dead, .dead, .dead, .dead, .dead, .dead, .dead, .dead, .dead, .dead, .dead, .dead, .dead, .dead, .dead, .dead, .dead, .dead, .dead, .dead, .dead, .dead, .dead, .dead, .dead, .dead, .dead, .dead, .dead, .dead, .dead, .dead, .dead, .dead, .dead, .dead, .dead, .dead, .dead, .dead, .dead, .dead, .dead, .dead, .dead, .dead, .dead, .dead, .dead, .dead, .dead, .dead, .dead, .dead, .dead, .dead, .dead, .dead, .dead, .dead, .dead, .dead, .dead, .dead, .dead, .dead, .dead, .dead, .dead, .dead, .dead, .dead, .dead, .dead, .dead, .dead, .dead, .dead, .dead, .dead, .dead, .dead, .dead, .dead, .dead, .dead, .dead, .dead, .dead, .dead, .dead, .dead, .dead, .dead, .dead, .dead, .dead, .dead, .dead, .dead, .dead, .dead, .dead, .dead, .dead, .dead, .dead, .dead, .dead, .dead, .dead, .dead, .dead, .dead, .dead, .dead, .dead, .dead, .dead, .dead, .dead, .dead, .dead, .dead, .dead, .dead, .dead, .dead, .dead, .dead, (.all 1000000000 1), (.imm (.int .i64 x4q7)), (.imm (.int .i64 p2)), (.imm (.int .i64 (IntKind.wrap .i64 ((IntKind.wrap .i64 ((halfI p1 p3) + p2)) - x4q7)))), (.imm (.fn false p4d p4g)), .dead, .dead, .dead, .dead, .dead, .dead, .dead, .dead, .dead, .dead, .dead, .dead, .dead, .dead, .dead, .dead, .dead, .dead, .dead, .dead, .dead, .dead, .dead, .dead, .dead, .dead, .dead, .dead, .dead, (.tup []), (.all 1000000000 1)], []⟩
noncomputable abbrev L6 (fuel n : Nat) (s : St) (k : Kont) := lAt Try.prog X I fuel false 2 false 45 (bodyOf Try.f45) [1, 0] n s k
noncomputable abbrev k6 (n5 : Nat) (fuel : Nat) : Kont := (kAt Try.prog X I fuel false 2 false 45 (bodyOf Try.f45) [1, 0] [] (endFn Try.prog Try.f45 58 (kOp Try.prog X I fuel false 3 44 (cAt (bodyOf Try.f44) [1, 1, 0, 0, 0, 1, 0, 1, 0, 0]) 7 (kAt Try.prog X I fuel false 3 false 44 (bodyOf Try.f44) [1, 1, 0, 0, 0, 1, 0, 1, 0, 0] [n5] (endFn Try.prog Try.f44 220 (kOp Try.prog X I fuel false 4 42 (cAt (bodyOf Try.f42) [1, 1, 1, 1, 1, 1, 1, 1, 1, 0, 1, 0]) 5 (kAt Try.prog X I fuel false 4 false 42 (bodyOf Try.f42) [1, 1, 1, 1, 1, 1, 1, 1, 1, 0, 1, 0] [] (endK Try.prog Try.f42))))))))
noncomputable def t6 (p2 : Int) (x5q3 : Int) (x5q4 : Int) (p4d : List Q → Bool) (p4g : List Q → Int) (p1 : Int) (p3 : Int) (x4q7 : Int) (x6q3 : Int) (x6q4 : List Int) : St := ⟨[(.all 1000000000 1), (.imm (.int .i64 (IntKind.wrap .i64 (p2 - x5q3)))), (.imm (.int .i64 p2)), (.imm (.int .i64 x5q4)), .dead, .dead, .dead, .dead, .dead, .dead, (.imm (.int .i64 x6q3)), .dead, .dead, .dead, .dead, .dead, .dead, .dead, .dead, .dead, .dead, .dead, .dead, .dead, .dead, .dead, .dead, .dead, .dead, .dead, .dead, .dead, .dead, .dead, .dead, .dead, .dead, .dead], hOf [(1000000000, (.ints .i64 x6q4))], [(.all 1000000000 1), .dead, (.imm (.int .i64 p2)), .dead, (.imm (.fn false p4d p4g)), .dead, .dead, .dead, .dead, .dead, (.imm (.int .i64 x5q3)), (.imm (.int .i64 x5q4)), .dead, .dead, .dead, .dead, .dead, .dead, .dead, .dead, .dead, .dead, .dead, .dead, (.all 1000000000 1), (.imm (.int .i64 p2)), (.imm (.int .i64 x5q3)), (.imm (.int .i64 (IntKind.wrap .i64 (p2 - x5q3)))), (.imm (.int .i64 p2)), (.imm (.int .i64 x5q4)), (.imm (.fn false p4d p4g)), .dead, .dead, .dead, .dead, .dead, .dead, .dead, .dead, .dead, .dead, .dead, .dead, .dead, .dead, .dead, .dead, .dead, .dead, .dead, .dead, .dead, .dead, .dead, .dead, .dead, .dead, .dead, (.tup []), (.all 1000000000 1), (.imm (.int .i64 p1)), (.imm (.int .i64 p2)), (.imm (.int .i64 p3)), (.imm (.fn false p4d p4g)), .dead, .dead, .dead, .dead, .dead, .dead, .dead, .dead, .dead, .dead, .dead, .dead, .dead, (.imm (.int .i64 (halfI p1 p3))), .dead, (.imm (.int .i64 x4q7)), .dead, .dead, .dead, (.imm (.int .i64 (IntKind.wrap .i64 ((IntKind.wrap .i64 ((halfI p1 p3) + p2)) - x4q7)))), .dead, .dead, .dead, .dead, .dead, .dead, .dead, .dead, .dead, .dead, .dead, .dead, .dead, .dead, .dead, .dead, .dead, .dead, .dead, .dead, .dead, .dead, .dead, .dead, .dead, .dead, .dead, .dead, .dead, .dead, .dead, .dead, .dead, .dead, .dead, .dead, .dead, .dead, .dead, .dead, .dead, .dead, .dead, .dead, .dead, .dead, .dead, .dead, .dead, .dead, .dead, .dead, .dead, .dead, .dead, .dead, .dead, .dead, .dead, .dead, .dead, .dead, .dead, .dead, .dead, .dead, .dead, .dead, .dead, .dead, .dead, .dead, .dead, .dead, .dead, .dead, .dead, .dead, .dead, .dead, .dead, .dead, .dead, .dead, .dead, .dead, .dead, .dead, .dead, .dead, .dead, .dead, .dead, .dead, .dead, .dead, .dead, .dead, .dead, .dead, .dead, .dead, .dead, .dead, .dead, .dead, .dead, .dead, .dead, .dead, .dead, .dead, .dead, .dead, .dead, .dead, .dead, .dead, .dead, .dead, .dead, .dead, .dead, .dead, .dead, .dead, .dead, .dead, .dead, .dead, .dead, .dead, .dead, .dead, .dead, .dead, .dead, .dead, .dead, .dead, .dead, .dead, .dead, .dead, .dead, .dead, .dead, .dead, .dead, .dead, .dead, .dead, .dead, .dead, .dead, .dead, .dead, .dead, .dead, .dead, .dead, (.all 1000000000 1), (.imm (.int .i64 x4q7)), (.imm (.int .i64 p2)), (.imm (.int .i64 (IntKind.wrap .i64 ((IntKind.wrap .i64 ((halfI p1 p3) + p2)) - x4q7)))), (.imm (.fn false p4d p4g)), .dead, .dead, .dead, .dead, .dead, .dead, .dead, .dead, .dead, .dead, .dead, .dead, .dead, .dead, .dead, .dead, .dead, .dead, .dead, .dead, .dead, .dead, .dead, .dead, .dead, .dead, .dead, .dead, .dead, (.tup []), (.all 1000000000 1)], []⟩
noncomputable abbrev L7 (fuel n : Nat) (s : St) (k : Kont) := lAt Try.prog X I fuel false 2 false 45 (bodyOf Try.f45) [1, 0] n s k
noncomputable abbrev k7 (n5 : Nat) (fuel : Nat) : Kont := (kAt Try.prog X I fuel false 2 false 45 (bodyOf Try.f45) [1, 0] [] (endFn Try.prog Try.f45 58 (kOp Try.prog X I fuel false 3 44 (cAt (bodyOf Try.f44) [1, 1, 0, 0, 0, 1, 0, 1, 1, 0]) 11 (kAt Try.prog X I fuel false 3 false 44 (bodyOf Try.f44) [1, 1, 0, 0, 0, 1, 0, 1, 1, 0] [n5] (endFn Try.prog Try.f44 220 (kOp Try.prog X I fuel false 4 42 (cAt (bodyOf Try.f42) [1, 1, 1, 1, 1, 1, 1, 1, 1, 0, 1, 0]) 5 (kAt Try.prog X I fuel false 4 false 42 (bodyOf Try.f42) [1, 1, 1, 1, 1, 1, 1, 1, 1, 0, 1, 0] [] (endK Try.prog Try.f42))))))))
noncomputable def t7 (p2 : Int) (x5q3 : Int) (x5q4 : Int) (p4d : List Q → Bool) (p4g : List Q → Int) (p1 : Int) (p3 : Int) (x4q7 : Int) (x7q3 : Int) (x7q4 : List Int) : St := ⟨[(.all 1000000000 1), (.imm (.int .i64 (IntKind.wrap .i64 (p2 - x5q3)))), (.imm (.int .i64 (IntKind.wrap .i64 ((IntKind.wrap .i64 (p2 + x5q4)) - x5q3)))), (.imm (.int .i64 x5q3)), .dead, .dead, .dead, .dead, .dead, .dead, (.imm (.int .i64 x7q3)), .dead, .dead, .dead, .dead, .dead, .dead, .dead, .dead, .dead, .dead, .dead, .dead, .dead, .dead, .dead, .dead, .dead, .dead, .dead, .dead, .dead, .dead, .dead, .dead, .dead, .dead, .dead], hOf [(1000000000, (.ints .i64 x7q4))], [(.all 1000000000 1), .dead, (.imm (.int .i64 p2)), .dead, (.imm (.fn false p4d p4g)), .dead, .dead, .dead, .dead, .dead, (.imm (.int .i64 x5q3)), (.imm (.int .i64 x5q4)), .dead, .dead, .dead, .dead, .dead, .dead, .dead, .dead, .dead, .dead, .dead, .dead, .dead, .dead, .dead, .dead, .dead, .dead, .dead, .dead, .dead, .dead, .dead, (.all 1000000000 1), (.imm (.int .i64 p2)), (.imm (.int .i64 x5q3)), (.imm (.int .i64 (IntKind.wrap .i64 (p2 - x5q3)))), (.imm (.int .i64 p2)), (.imm (.int .i64 x5q4)), (.imm (.int .i64 (IntKind.wrap .i64 (p2 + x5q4)))), (.imm (.int .i64 x5q3)), (.imm (.int .i64 (IntKind.wrap .i64 ((IntKind.wrap .i64 (p2 + x5q4)) - x5q3)))), (.imm (.int .i64 x5q3)), (.imm (.fn false p4d p4g)), .dead, .dead, .dead, .dead, .dead, .dead, .dead, .dead, .dead, .dead, .dead, .dead, (.tup []), (.all 1000000000 1), (.imm (.int .i64 p1)), (.imm (.int .i64 p2)), (.imm (.int .i64 p3)), (.imm (.fn false p4d p4g)), .dead, .dead, .dead, .dead, .dead, .dead, .dead, .dead, .dead, .dead, .dead, .dead, .dead, (.imm (.int .i64 (halfI p1 p3))), .dead, (.imm (.int .i64 x4q7)), .dead, .dead, .dead, (.imm (.int .i64 (IntKind.wrap .i64 ((IntKind.wrap .i64 ((halfI p1 p3) + p2)) - x4q7)))), .dead, .dead, .dead, .dead, .dead, .dead, .dead, .dead, .dead, .dead, .dead, .dead, .dead, .dead, .dead, .dead, .dead, .dead, .dead, .dead, .dead, .dead, .dead, .dead, .dead, .dead, .dead, .dead, .dead, .dead, .dead, .dead, .dead, .dead, .dead, .dead, .dead, .dead, .dead, .dead, .dead, .dead, .dead, .dead, .dead, .dead, .dead, .dead, .dead, .dead, .dead, .dead, .dead, .dead, .dead, .dead, .dead, .dead, .dead, .dead, .dead, .dead, .dead, .dead, .dead, .dead, .dead, .dead, .dead, .dead, .dead, .dead, .dead, .dead, .dead, .dead, .dead, .dead, .dead, .dead, .dead, .dead, .dead, .dead, .dead, .dead, .dead, .dead, .dead, .dead, .dead, .dead, .dead, .dead, .dead, .dead, .dead, .dead, .dead, .dead, .dead, .dead, .dead, .dead, .dead, .dead, .dead, .dead, .dead, .dead, .dead, .dead, .dead, .dead, .dead, .dead, .dead, .dead, .dead, .dead, .dead, .dead, .dead, .dead, .dead, .dead, .dead, .dead, .dead, .dead, .dead, .dead, .dead, .dead, .dead, .dead, .dead, .dead, .dead, .dead, .dead, .dead, .dead, .dead, .dead, .dead, .dead, .dead, .dead, .dead, .dead, .dead, .dead, .dead, .dead, .dead, .dead, .dead, .dead, .dead, .dead, (.all 1000000000 1), (.imm (.int .i64 x4q7)), (.imm (.int .i64 p2)), (.imm (.int .i64 (IntKind.wrap .i64 ((IntKind.wrap .i64 ((halfI p1 p3) + p2)) - x4q7)))), (.imm (.fn false p4d p4g)), .dead, .dead, .dead, .dead, .dead, .dead, .dead, .dead, .dead, .dead, .dead, .dead, .dead, .dead, .dead, .dead, .dead, .dead, .dead, .dead, .dead, .dead, .dead, .dead, .dead, .dead, .dead, .dead, .dead, (.tup []), (.all 1000000000 1)], []⟩
noncomputable abbrev L8 (fuel n : Nat) (s : St) (k : Kont) := lAt Try.prog X I fuel false 2 false 45 (bodyOf Try.f45) [1, 0] n s k
noncomputable abbrev k8  (fuel : Nat) : Kont := (kAt Try.prog X I fuel false 2 false 45 (bodyOf Try.f45) [1, 0] [] (endFn Try.prog Try.f45 58 (kOp Try.prog X I fuel false 3 44 (cAt (bodyOf Try.f44) [1, 1, 1]) 7 (kAt Try.prog X I fuel false 3 false 44 (bodyOf Try.f44) [1, 1, 1] [] (endFn Try.prog Try.f44 220 (kOp Try.prog X I fuel false 4 42 (cAt (bodyOf Try.f42) [1, 1, 1, 1, 1, 1, 1, 1, 1, 0, 1, 0]) 5 (kAt Try.prog X I fuel false 4 false 42 (bodyOf Try.f42) [1, 1, 1, 1, 1, 1, 1, 1, 1, 0, 1, 0] [] (endK Try.prog Try.f42))))))))
noncomputable def t8 (p2 : Int) (x5q3 : Int) (p4d : List Q → Bool) (p4g : List Q → Int) (p1 : Int) (p3 : Int) (x4q7 : Int) (x8q3 : Int) (x8q4 : List Int) : St := ⟨[(.all 1000000000 1), (.imm (.int .i64 (IntKind.wrap .i64 (p2 - x5q3)))), (.imm (.int .i64 p2)), (.imm (.int .i64 x5q3)), .dead, .dead, .dead, .dead, .dead, .dead, (.imm (.int .i64 x8q3)), .dead, .dead, .dead, .dead, .dead, .dead, .dead, .dead, .dead, .dead, .dead, .dead, .dead, .dead, .dead, .dead, .dead, .dead, .dead, .dead, .dead, .dead, .dead, .dead, .dead, .dead, .dead], hOf [(1000000000, (.ints .i64 x8q4))], [(.all 1000000000 1), .dead, (.imm (.int .i64 p2)), .dead, (.imm (.fn false p4d p4g)), .dead, .dead, .dead, .dead, .dead, (.imm (.int .i64 x5q3)), .dead, .dead, .dead, .dead, .dead, .dead, .dead, .dead, .dead, .dead, .dead, .dead, .dead, .dead, .dead, .dead, .dead, .dead, .dead, .dead, .dead, .dead, .dead, .dead, .dead, .dead, .dead, .dead, .dead, .dead, .dead, .dead, .dead, .dead, .dead, .dead, .dead, .dead, .dead, (.all 1000000000 1), (.imm (.int .i64 p2)), (.imm (.int .i64 x5q3)), (.imm (.int .i64 (IntKind.wrap .i64 (p2 - x5q3)))), (.imm (.int .i64 p2)), (.imm (.int .i64 x5q3)), (.imm (.fn false p4d p4g)), .dead, (.tup []), (.all 1000000000 1), (.imm (.int .i64 p1)), (.imm (.int .i64 p2)), (.imm (.int .i64 p3)), (.imm (.fn false p4d p4g)), .dead, .dead, .dead, .dead, .dead, .dead, .dead, .dead, .dead, .dead, .dead, .dead, .dead, (.imm (.int .i64 (halfI p1 p3))), .dead, (.imm (.int .i64 x4q7)), .dead, .dead, .dead, (.imm (.int .i64 (IntKind.wrap .i64 ((IntKind.wrap .i64 ((halfI p1 p3) + p2)) - x4q7)))), .dead, .dead, .dead, .dead, .dead, .dead, .dead, .dead, .dead, .dead, .dead, .dead, .dead, .dead, .dead, .dead, .dead, .dead, .dead, .dead, .dead, .dead, .dead, .dead, .dead, .dead, .dead, .dead, .dead, .dead, .dead, .dead, .dead, .dead, .dead, .dead, .dead, .dead, .dead, .dead, .dead, .dead, .dead, .dead, .dead, .dead, .dead, .dead, .dead, .dead, .dead, .dead, .dead, .dead, .dead, .dead, .dead, .dead, .dead, .dead, .dead, .dead, .dead, .dead, .dead, .dead, .dead, .dead, .dead, .dead, .dead, .dead, .dead, .dead, .dead, .dead, .dead, .dead, .dead, .dead, .dead, .dead, .dead, .dead, .dead, .dead, .dead, .dead, .dead, .dead, .dead, .dead, .dead, .dead, .dead, .dead, .dead, .dead, .dead, .dead, .dead, .dead, .dead, .dead, .dead, .dead, .dead, .dead, .dead, .dead, .dead, .dead, .dead, .dead, .dead, .dead, .dead, .dead, .dead, .dead, .dead, .dead, .dead, .dead, .dead, .dead, .dead, .dead, .dead, .dead, .dead, .dead, .dead, .dead, .dead, .dead, .dead, .dead, .dead, .dead, .dead, .dead, .dead, .dead, .dead, .dead, .dead, .dead, .dead, .dead, .dead, .dead, .dead, .dead, .dead, .dead, .dead, .dead, .dead, .dead, .dead, (.all 1000000000 1), (.imm (.int .i64 x4q7)), (.imm (.int .i64 p2)), (.imm (.int .i64 (IntKind.wrap .i64 ((IntKind.wrap .i64 ((halfI p1 p3) + p2)) - x4q7)))), (.imm (.fn false p4d p4g)), .dead, .dead, .dead, .dead, .dead, .dead, .dead, .dead, .dead, .dead, .dead, .dead, .dead, .dead, .dead, .dead, .dead, .dead, .dead, .dead, .dead, .dead, .dead, .dead, .dead, .dead, .dead, .dead, .dead, (.tup []), (.all 1000000000 1)], []⟩
theorem e (fuel : Nat) (p0 : List Int) (p1 : Int) (p2 : Int) (p3 : Int) (p4d : List Q → Bool) (p4g : List Q → Int) : runF Try.prog X I 4 fuel 42 Try.f42 [.rows true [(.i64, p0)], .d (.int .i64 p1), .d (.int .i64 p2), .d (.int .i64 p3), .d (.fn false p4d p4g)] =
  (bif (((IntKind.wrap .i64 (p2 - p1)) : Int) == 1) then
  L0 fuel fuel (t0 p1 p4d p4g p0 p2 p3) (k0  fuel)
  else
  (bif (((IntKind.wrap .i64 (p3 - p2)) : Int) == 1) then
  L2 fuel fuel (t2 p2 p4d p4g p0 p1 p2) (k2  fuel)
  else
  (bif (decide ((p2 : Int) > (halfI p1 p3))) then
  L4 fuel fuel (t4 p1 p2 p3 p4d p4g p0 ((IntKind.wrap .i64 ((IntKind.wrap .i64 ((halfI p1 p3) + p2)) - p3))) ((halfI p1 p3))) (k4  fuel)
  else
  L4 fuel fuel (t4 p1 p2 p3 p4d p4g p0 p1 p2) (k4  fuel)))) := by kernel_rfl
theorem s0 (fuel n0 : Nat) (p1 : Int) (p4d : List Q → Bool) (p4g : List Q → Int) (p0 : List Int) (x0q3 : Int) (x0q4 : Int) : L0 fuel (n0 + 1) (t0 p1 p4d p4g p0 x0q3 x0q4) (k0  fuel) =
  (bif (decide ((x0q3 : Int) < x0q4)) then
  (idx (halfI x0q3 x0q4) p0.length).bind fun j39 =>
  (p0[j39]?).bind fun v40 =>
  (idx p1 p0.length).bind fun j41 =>
  (p0[j41]?).bind fun v42 =>
  (bif (p4d [Q.i v40, Q.i v42]) then
  (bif (decide (((p4g [Q.i v40, Q.i v42]) : Int) < 0)) then
  L0 fuel n0 (t0 p1 p4d p4g p0 ((IntKind.wrap .i64 ((halfI x0q3 x0q4) + 1))) x0q4) (k0  fuel)
  else
  L0 fuel n0 (t0 p1 p4d p4g p0 x0q3 ((halfI x0q3 x0q4))) (k0  fuel))
  else
  none)
  else
  L1 fuel fuel (t1 x0q3 p1 p0) (k1  fuel)) := by kernel_rfl
theorem s1 (fuel n1 : Nat) (x0q3 : Int) (x1q1 : Int) (x1q2 : List Int) : L1 fuel (n1 + 1) (t1 x0q3 x1q1 x1q2) (k1  fuel) =
  (bif (decide ((x1q1 : Int) < (IntKind.wrap .i64 (x0q3 - 1)))) then
  (idx (IntKind.wrap .i64 (x1q1 + 1)) x1q2.length).bind fun j49 =>
  (x1q2[j49]?).bind fun v50 =>
  (idx x1q1 x1q2.length).bind fun j51 =>
  (x1q2[j51]?).bind fun v52 =>
  (idx x1q1 x1q2.length).bind fun j53 =>
  (bif decide (j53 < x1q2.length) then
  (idx (IntKind.wrap .i64 (x1q1 + 1)) (x1q2.set j53 v50).length).bind fun j54 =>
  (bif decide (j54 < (x1q2.set j53 v50).length) then
  L1 fuel n1 (t1 x0q3 ((IntKind.wrap .i64 (x1q1 + 1))) (((x1q2.set j53 v50).set j54 v52))) (k1  fuel)
  else
  none)
  else
  none)
  else
  some ([], [[(.ints .i64 x1q2)]])) := by kernel_rfl
theorem s2 (fuel n2 : Nat) (p2 : Int) (p4d : List Q → Bool) (p4g : List Q → Int) (p0 : List Int) (x2q3 : Int) (x2q4 : Int) : L2 fuel (n2 + 1) (t2 p2 p4d p4g p0 x2q3 x2q4) (k2  fuel) =
  (bif (decide ((x2q3 : Int) < x2q4)) then
  (idx p2 p0.length).bind fun j93 =>
  (p0[j93]?).bind fun v94 =>
  (idx (halfI x2q3 x2q4) p0.length).bind fun j95 =>
  (p0[j95]?).bind fun v96 =>
  (bif (p4d [Q.i v94, Q.i v96]) then
  (bif (!(decide (((p4g [Q.i v94, Q.i v96]) : Int) < 0))) then
  L2 fuel n2 (t2 p2 p4d p4g p0 ((IntKind.wrap .i64 ((halfI x2q3 x2q4) + 1))) x2q4) (k2  fuel)
  else
  L2 fuel n2 (t2 p2 p4d p4g p0 x2q3 ((halfI x2q3 x2q4))) (k2  fuel))
  else
  none)
  else
  L3 fuel fuel (t3 x2q3 p2 p0) (k3  fuel)) := by kernel_rfl
theorem s3 (fuel n3 : Nat) (x2q3 : Int) (x3q1 : Int) (x3q2 : List Int) : L3 fuel (n3 + 1) (t3 x2q3 x3q1 x3q2) (k3  fuel) =
  (bif (decide ((x3q1 : Int) > x2q3)) then
  (idx (IntKind.wrap .i64 (x3q1 - 1)) x3q2.length).bind fun j103 =>
  (x3q2[j103]?).bind fun v104 =>
  (idx x3q1 x3q2.length).bind fun j105 =>
  (x3q2[j105]?).bind fun v106 =>
  (idx x3q1 x3q2.length).bind fun j107 =>
  (bif decide (j107 < x3q2.length) then
  (idx (IntKind.wrap .i64 (x3q1 - 1)) (x3q2.set j107 v104).length).bind fun j108 =>
  (bif decide (j108 < (x3q2.set j107 v104).length) then
  L3 fuel n3 (t3 x2q3 ((IntKind.wrap .i64 (x3q1 - 1))) (((x3q2.set j107 v104).set j108 v106))) (k3  fuel)
  else
  none)
  else
  none)
  else
  some ([], [[(.ints .i64 x3q2)]])) := by kernel_rfl
theorem s4 (fuel n4 : Nat) (p1 : Int) (p2 : Int) (p3 : Int) (p4d : List Q → Bool) (p4g : List Q → Int) (p0 : List Int) (x4q7 : Int) (x4q8 : Int) : L4 fuel (n4 + 1) (t4 p1 p2 p3 p4d p4g p0 x4q7 x4q8) (k4  fuel) =
  (bif (decide ((x4q7 : Int) < x4q8)) then
  (idx (IntKind.wrap .i64 ((IntKind.wrap .i64 ((IntKind.wrap .i64 ((halfI p1 p3) + p2)) - 1)) - (halfI x4q7 x4q8))) p0.length).bind fun j315 =>
  (p0[j315]?).bind fun v316 =>
  (idx (halfI x4q7 x4q8) p0.length).bind fun j317 =>
  (p0[j317]?).bind fun v318 =>
  (bif (p4d [Q.i v316, Q.i v318]) then
  (bif (!(decide (((p4g [Q.i v316, Q.i v318]) : Int) < 0))) then
  L4 fuel n4 (t4 p1 p2 p3 p4d p4g p0 ((IntKind.wrap .i64 ((halfI x4q7 x4q8) + 1))) x4q8) (k4  fuel)
  else
  L4 fuel n4 (t4 p1 p2 p3 p4d p4g p0 x4q7 ((halfI x4q7 x4q8))) (k4  fuel))
  else
  none)
  else
  (bif (decide ((x4q7 : Int) < p2)) then
  (bif (decide ((p2 : Int) < (IntKind.wrap .i64 ((IntKind.wrap .i64 ((halfI p1 p3) + p2)) - x4q7)))) then
  L5 fuel fuel (t5 p2 p4d p4g p1 p3 x4q7 ((IntKind.wrap .i64 (p2 - x4q7))) ((IntKind.wrap .i64 ((IntKind.wrap .i64 ((IntKind.wrap .i64 ((halfI p1 p3) + p2)) - x4q7)) - p2))) p0) (k5  fuel)
  else
  (tailM ((16 : Nat) : Int) p4d p4g p1 x4q7 (halfI p1 p3) (IntKind.wrap .i64 ((IntKind.wrap .i64 ((halfI p1 p3) + p2)) - x4q7)) p3 p0))
  else
  (tailM ((16 : Nat) : Int) p4d p4g p1 x4q7 (halfI p1 p3) (IntKind.wrap .i64 ((IntKind.wrap .i64 ((halfI p1 p3) + p2)) - x4q7)) p3 p0))) := by kernel_rfl
theorem s5 (fuel n5 : Nat) (p2 : Int) (p4d : List Q → Bool) (p4g : List Q → Int) (p1 : Int) (p3 : Int) (x4q7 : Int) (x5q3 : Int) (x5q4 : Int) (x5q5 : List Int) : L5 fuel (n5 + 1) (t5 p2 p4d p4g p1 p3 x4q7 x5q3 x5q4 x5q5) (k5  fuel) =
  (bif ((x5q3 : Int) != x5q4) then
  (bif (decide ((x5q3 : Int) > x5q4)) then
  L6 fuel fuel (t6 p2 x5q3 x5q4 p4d p4g p1 p3 x4q7 0 x5q5) (k6 n5 fuel)
  else
  L7 fuel fuel (t7 p2 x5q3 x5q4 p4d p4g p1 p3 x4q7 0 x5q5) (k7 n5 fuel))
  else
  L8 fuel fuel (t8 p2 x5q3 p4d p4g p1 p3 x4q7 0 x5q5) (k8  fuel)) := by kernel_rfl
theorem s6 (fuel n5 n6 : Nat) (p2 : Int) (x5q3 : Int) (x5q4 : Int) (p4d : List Q → Bool) (p4g : List Q → Int) (p1 : Int) (p3 : Int) (x4q7 : Int) (x6q3 : Int) (x6q4 : List Int) : L6 fuel (n6 + 1) (t6 p2 x5q3 x5q4 p4d p4g p1 p3 x4q7 x6q3 x6q4) (k6 n5 fuel) =
  (bif (decide ((x6q3 : Int) < x5q4)) then
  (idx (IntKind.wrap .i64 (p2 + x6q3)) x6q4.length).bind fun j361 =>
  (x6q4[j361]?).bind fun v362 =>
  (idx (IntKind.wrap .i64 ((IntKind.wrap .i64 (p2 - x5q3)) + x6q3)) x6q4.length).bind fun j363 =>
  (x6q4[j363]?).bind fun v364 =>
  (idx (IntKind.wrap .i64 ((IntKind.wrap .i64 (p2 - x5q3)) + x6q3)) x6q4.length).bind fun j365 =>
  (bif decide (j365 < x6q4.length) then
  (idx (IntKind.wrap .i64 (p2 + x6q3)) (x6q4.set j365 v362).length).bind fun j366 =>
  (bif decide (j366 < (x6q4.set j365 v362).length) then
  L6 fuel n6 (t6 p2 x5q3 x5q4 p4d p4g p1 p3 x4q7 ((IntKind.wrap .i64 (x6q3 + 1))) (((x6q4.set j365 v362).set j366 v364))) (k6 n5 fuel)
  else
  none)
  else
  none)
  else
  L5 fuel n5 (t5 p2 p4d p4g p1 p3 x4q7 ((IntKind.wrap .i64 (x5q3 - x5q4))) x5q4 x6q4) (k5  fuel)) := by kernel_rfl
theorem s7 (fuel n5 n7 : Nat) (p2 : Int) (x5q3 : Int) (x5q4 : Int) (p4d : List Q → Bool) (p4g : List Q → Int) (p1 : Int) (p3 : Int) (x4q7 : Int) (x7q3 : Int) (x7q4 : List Int) : L7 fuel (n7 + 1) (t7 p2 x5q3 x5q4 p4d p4g p1 p3 x4q7 x7q3 x7q4) (k7 n5 fuel) =
  (bif (decide ((x7q3 : Int) < x5q3)) then
  (idx (IntKind.wrap .i64 ((IntKind.wrap .i64 ((IntKind.wrap .i64 (p2 + x5q4)) - x5q3)) + x7q3)) x7q4.length).bind fun j373 =>
  (x7q4[j373]?).bind fun v374 =>
  (idx (IntKind.wrap .i64 ((IntKind.wrap .i64 (p2 - x5q3)) + x7q3)) x7q4.length).bind fun j375 =>
  (x7q4[j375]?).bind fun v376 =>
  (idx (IntKind.wrap .i64 ((IntKind.wrap .i64 (p2 - x5q3)) + x7q3)) x7q4.length).bind fun j377 =>
  (bif decide (j377 < x7q4.length) then
  (idx (IntKind.wrap .i64 ((IntKind.wrap .i64 ((IntKind.wrap .i64 (p2 + x5q4)) - x5q3)) + x7q3)) (x7q4.set j377 v374).length).bind fun j378 =>
  (bif decide (j378 < (x7q4.set j377 v374).length) then
  L7 fuel n7 (t7 p2 x5q3 x5q4 p4d p4g p1 p3 x4q7 ((IntKind.wrap .i64 (x7q3 + 1))) (((x7q4.set j377 v374).set j378 v376))) (k7 n5 fuel)
  else
  none)
  else
  none)
  else
  L5 fuel n5 (t5 p2 p4d p4g p1 p3 x4q7 x5q3 ((IntKind.wrap .i64 (x5q4 - x5q3))) x7q4) (k5  fuel)) := by kernel_rfl
theorem s8 (fuel n8 : Nat) (p2 : Int) (x5q3 : Int) (p4d : List Q → Bool) (p4g : List Q → Int) (p1 : Int) (p3 : Int) (x4q7 : Int) (x8q3 : Int) (x8q4 : List Int) : L8 fuel (n8 + 1) (t8 p2 x5q3 p4d p4g p1 p3 x4q7 x8q3 x8q4) (k8  fuel) =
  (bif (decide ((x8q3 : Int) < x5q3)) then
  (idx (IntKind.wrap .i64 (p2 + x8q3)) x8q4.length).bind fun j385 =>
  (x8q4[j385]?).bind fun v386 =>
  (idx (IntKind.wrap .i64 ((IntKind.wrap .i64 (p2 - x5q3)) + x8q3)) x8q4.length).bind fun j387 =>
  (x8q4[j387]?).bind fun v388 =>
  (idx (IntKind.wrap .i64 ((IntKind.wrap .i64 (p2 - x5q3)) + x8q3)) x8q4.length).bind fun j389 =>
  (bif decide (j389 < x8q4.length) then
  (idx (IntKind.wrap .i64 (p2 + x8q3)) (x8q4.set j389 v386).length).bind fun j390 =>
  (bif decide (j390 < (x8q4.set j389 v386).length) then
  L8 fuel n8 (t8 p2 x5q3 p4d p4g p1 p3 x4q7 ((IntKind.wrap .i64 (x8q3 + 1))) (((x8q4.set j389 v386).set j390 v388))) (k8  fuel)
  else
  none)
  else
  none)
  else
  (tailM ((16 : Nat) : Int) p4d p4g p1 x4q7 (halfI p1 p3) (IntKind.wrap .i64 ((IntKind.wrap .i64 ((halfI p1 p3) + p2)) - x4q7)) p3 x8q4)) := by kernel_rfl
end smv5
theorem smv5.ok_of (hX : ∀ E ∈ smv5.X, CallSpec Try.prog E) (h : ∀ (xs : List Int) (a : Int) (m : Int) (b : Int) (dom : List Q → Bool) (G : List Q → Int), (decide ((xs : List Int).length ≤ 60) && domA dom xs && mgW G xs a m b && decide (0 ≤ a) && decide (a < m) && decide (m < b) && decide (b - a ≤ 32)) = true → ∃ fuel, runF Try.prog smv5.X smv5.I 4 fuel 42 Try.f42 [.rows true [(.i64, xs)], .d (.int .i64 a), .d (.int .i64 m), .d (.int .i64 b), .d (.fn false dom G)] = some ([], [[(.ints .i64 (segS (ltG G) a.toNat b.toNat xs))]])) : CallSpec Try.prog smv5.E :=
  callSpec_of (d := 4) hX (by kernel_rfl) smv5.I_ok (by kernel_rfl) (by kernel_rfl) (by kernel_rfl) (fun _ _ _ _ h => by dsimp only [smv5.E] at h; cases h) (fun xs hp => by
    dsimp only [smv5.E] at hp ⊢
    split at hp
    · exact h _ _ _ _ _ _ hp
    · cases hp)
theorem smv5.shift {F : Nat} {xs : List Int} {a i : Nat} (hl : xs.length ≤ 60) (hi : a + 1 ≤ i) (hib : i ≤ xs.length) (hF : 200 < F) :
    smv5.L1 F F (smv5.t1 (i : Int) (a : Int) xs) (smv5.k1 F) = some ([], [[(.ints .i64 (shU a (i - 1 - a) xs))]]) := by
  refine run_loop (N := i - 1 - a) (fun n c ys => smv5.L1 F n (smv5.t1 (i : Int) ((a + c : Nat) : Int) ys) (smv5.k1 F)) (fun c ys => ys = shU a c xs) ?_ ?_ F 0 xs (by omega) (by omega) rfl
  · rintro n ys rfl
    rw [smv5.s1, wS (by omega) (by omega), decide_eq_false (by omega)]
    rfl
  · rintro n c ys hc rfl
    have hyl := shU_len a c xs
    refine ⟨_, rfl, ?_⟩
    rw [smv5.s1, wS (x := (i : Int) - 1) (by omega) (by omega), decide_eq_true (by omega), cond_true, w1 (by omega), idx_nat (j := a + c + 1) (by omega), idx_nat (j := a + c) (by omega)]
    simp only [Option.bind_some, getD_get (show a + c + 1 < (shU a c xs).length by omega), getD_get (show a + c < (shU a c xs).length by omega)]
    rw [decide_eq_true (show a + c < (shU a c xs).length by omega), cond_true, List.length_set, idx_nat (j := a + c + 1) (by omega)]
    simp only [Option.bind_some, List.length_set]
    rw [decide_eq_true (show a + c + 1 < (shU a c xs).length by omega), cond_true]
    rfl
theorem smv5.left {F : Nat} {xs : List Int} {a b : Nat} {dom : List Q → Bool} {G : List Q → Int} {da : List Int} (hd : domA dom xs = true) (hlt : ltG G = ltD da) (hl : xs.length ≤ 60) (h : MG da a (a + 1) b xs) (hF : 200 < F) : ∀ (d n i j : Nat), j - i ≤ d → a + 1 ≤ i → i ≤ j → j ≤ b → (i = a + 1 ∨ ltD da (xs.getD (i - 1) 0) (xs.getD a 0) = true) → (j = b ∨ ltD da (xs.getD j 0) (xs.getD a 0) = false) → d < n →
    smv5.L0 F n (smv5.t0 (a : Int) dom G xs (i : Int) (j : Int)) (smv5.k0 F) = some ([], [[(.ints .i64 (segS (ltD da) a b xs))]]) := by
  have hb := h.bl
  have hfin : ∀ n i : Nat, a + 1 ≤ i → i ≤ b → (i = a + 1 ∨ ltD da (xs.getD (i - 1) 0) (xs.getD a 0) = true) → (i = b ∨ ltD da (xs.getD i 0) (xs.getD a 0) = false) → smv5.L0 F (n + 1) (smv5.t0 (a : Int) dom G xs (i : Int) (i : Int)) (smv5.k0 F) = some ([], [[(.ints .i64 (segS (ltD da) a b xs))]]) := by
    intro n i h1 h2 h3 h4
    rw [smv5.s0, decide_eq_false (by omega), cond_false, smv5.shift hl h1 (by omega) hF, mg_left' h h1 h2 h3 h4]
  intro d
  induction d with
  | zero =>
    intro n i j h1 h2 h3 h4 h5 h6 h7
    obtain ⟨n, rfl⟩ : ∃ k, n = k + 1 := ⟨n - 1, by omega⟩
    obtain rfl : i = j := by omega
    exact hfin n i h2 h4 h5 h6
  | succ d ih =>
    intro n i j h1 h2 h3 h4 h5 h6 h7
    obtain ⟨n, rfl⟩ : ∃ k, n = k + 1 := ⟨n - 1, by omega⟩
    by_cases hj : i < j
    · have hh : (i + j) / 2 < xs.length := by omega
      have ha : a < xs.length := by omega
      have hdm := domA_get hd (mem_getD hh) (mem_getD ha)
      have hlx := ltG_at hlt (xs.getD ((i + j) / 2) 0) (xs.getD a 0)
      rw [smv5.s0, decide_eq_true (by omega), cond_true, halfV (by omega), idx_nat hh, idx_nat ha]
      simp only [Option.bind_some, getD_get hh, getD_get ha, hdm, hlx, cond_true]
      cases hc : ltD da (xs.getD ((i + j) / 2) 0) (xs.getD a 0) with
      | true =>
        rw [cond_true, w1 (by omega)]
        exact ih n ((i + j) / 2 + 1) j (by omega) (by omega) (by omega) h4 (.inr (by rw [Nat.add_sub_cancel]; exact hc)) h6 (by omega)
      | false =>
        rw [cond_false]
        exact ih n i ((i + j) / 2) (by omega) h2 (by omega) (by omega) h5 (.inr hc) (by omega)
    · obtain rfl : i = j := by omega
      exact hfin n i h2 h4 h5 h6
theorem smv5.down {F : Nat} {xs : List Int} {m i : Nat} (hl : xs.length ≤ 60) (hi : i ≤ m) (hm : m < xs.length) (hF : 200 < F) :
    smv5.L3 F F (smv5.t3 (i : Int) (m : Int) xs) (smv5.k3 F) = some ([], [[(.ints .i64 (shD m (m - i) xs))]]) := by
  refine run_loop (N := m - i) (fun n c ys => smv5.L3 F n (smv5.t3 (i : Int) ((m - c : Nat) : Int) ys) (smv5.k3 F)) (fun c ys => ys = shD m c xs) ?_ ?_ F 0 xs (by omega) (by omega) rfl
  · rintro n ys rfl
    rw [smv5.s3, decide_eq_false (by omega)]
    rfl
  · rintro n c ys hc rfl
    have hyl := shD_len m c xs
    refine ⟨_, rfl, ?_⟩
    have e1 : IntKind.wrap .i64 (((m - c : Nat) : Int) - 1) = ((m - c - 1 : Nat) : Int) := by rw [wS (by omega) (by omega)]; omega
    rw [smv5.s3, decide_eq_true (by omega), cond_true, e1, idx_nat (j := m - c - 1) (by omega), idx_nat (j := m - c) (by omega)]
    simp only [Option.bind_some, getD_get (show m - c - 1 < (shD m c xs).length by omega), getD_get (show m - c < (shD m c xs).length by omega)]
    rw [decide_eq_true (show m - c < (shD m c xs).length by omega), cond_true, List.length_set, idx_nat (j := m - c - 1) (by omega)]
    simp only [Option.bind_some, List.length_set]
    rw [decide_eq_true (show m - c - 1 < (shD m c xs).length by omega), cond_true, show m - (c + 1) = m - c - 1 by omega]
    rfl
theorem smv5.right {F : Nat} {xs : List Int} {a m : Nat} {dom : List Q → Bool} {G : List Q → Int} {da : List Int} (hd : domA dom xs = true) (hlt : ltG G = ltD da) (hl : xs.length ≤ 60) (h : MG da a m (m + 1) xs) (hF : 200 < F) : ∀ (d n i j : Nat), j - i ≤ d → a ≤ i → i ≤ j → j ≤ m → (i = a ∨ ltD da (xs.getD m 0) (xs.getD (i - 1) 0) = false) → (j = m ∨ ltD da (xs.getD m 0) (xs.getD j 0) = true) → d < n →
    smv5.L2 F n (smv5.t2 (m : Int) dom G xs (i : Int) (j : Int)) (smv5.k2 F) = some ([], [[(.ints .i64 (segS (ltD da) a (m + 1) xs))]]) := by
  have hb := h.bl
  have hfin : ∀ n i : Nat, a ≤ i → i ≤ m → (i = a ∨ ltD da (xs.getD m 0) (xs.getD (i - 1) 0) = false) → (i = m ∨ ltD da (xs.getD m 0) (xs.getD i 0) = true) → smv5.L2 F (n + 1) (smv5.t2 (m : Int) dom G xs (i : Int) (i : Int)) (smv5.k2 F) = some ([], [[(.ints .i64 (segS (ltD da) a (m + 1) xs))]]) := by
    intro n i h1 h2 h3 h4
    rw [smv5.s2, decide_eq_false (by omega), cond_false, smv5.down hl h2 (by omega) hF, mg_right' h h1 h2 h3 h4]
  intro d
  induction d with
  | zero =>
    intro n i j h1 h2 h3 h4 h5 h6 h7
    obtain ⟨n, rfl⟩ : ∃ k, n = k + 1 := ⟨n - 1, by omega⟩
    obtain rfl : i = j := by omega
    exact hfin n i h2 h4 h5 h6
  | succ d ih =>
    intro n i j h1 h2 h3 h4 h5 h6 h7
    obtain ⟨n, rfl⟩ : ∃ k, n = k + 1 := ⟨n - 1, by omega⟩
    by_cases hj : i < j
    · have hh : (i + j) / 2 < xs.length := by omega
      have hm : m < xs.length := by omega
      have hdm := domA_get hd (mem_getD hm) (mem_getD hh)
      have hlx := ltG_at hlt (xs.getD m 0) (xs.getD ((i + j) / 2) 0)
      rw [smv5.s2, decide_eq_true (by omega), cond_true, halfV (by omega), idx_nat hh, idx_nat hm]
      simp only [Option.bind_some, getD_get hh, getD_get hm, hdm, hlx, cond_true]
      cases hc : ltD da (xs.getD m 0) (xs.getD ((i + j) / 2) 0) with
      | false =>
        rw [Bool.not_false, cond_true, w1 (by omega)]
        exact ih n ((i + j) / 2 + 1) j (by omega) (by omega) (by omega) h4 (.inr (by rw [Nat.add_sub_cancel]; exact hc)) h6 (by omega)
      | true =>
        rw [Bool.not_true, cond_false]
        exact ih n i ((i + j) / 2) (by omega) h2 (by omega) (by omega) h5 (.inr hc) (by omega)
    · obtain rfl : i = j := by omega
      exact hfin n i h2 h4 h5 h6
theorem smv5.swap6 {F n5 : Nat} {a s b m i j : Nat} {dom : List Q → Bool} {G : List Q → Int} {ys : List Int} (hl : ys.length ≤ 60) (hi : i ≤ m) (hij : j < i) (hm : m + j ≤ ys.length) (hF : 200 < F) :
    smv5.L6 F F (smv5.t6 (m : Int) (i : Int) (j : Int) dom G (a : Int) (b : Int) (s : Int) 0 ys) (smv5.k6 n5 F) = smv5.L5 F n5 (smv5.t5 (m : Int) dom G (a : Int) (b : Int) (s : Int) ((i - j : Nat) : Int) (j : Int) (swR (m - i) m j ys)) (smv5.k5 F) := by
  refine run_loop (N := j) (fun n c zs => smv5.L6 F n (smv5.t6 (m : Int) (i : Int) (j : Int) dom G (a : Int) (b : Int) (s : Int) (c : Int) zs) (smv5.k6 n5 F)) (fun c zs => zs = swR (m - i) m c ys) ?_ ?_ F 0 ys (by omega) (by omega) rfl
  · rintro n zs rfl
    rw [smv5.s6, decide_eq_false (by omega), cond_false, wSub (by omega) (by omega)]
  · rintro n c zs hc rfl
    have hyl := swR_len (m - i) m c ys
    refine ⟨_, rfl, ?_⟩
    rw [smv5.s6, decide_eq_true (by omega), cond_true, wAdd (a := m) (by omega), wSub hi (by omega), wAdd (a := m - i) (by omega), w1 (by omega), idx_nat (j := m + c) (by omega), idx_nat (j := m - i + c) (by omega)]
    simp only [Option.bind_some, getD_get (show m + c < (swR (m - i) m c ys).length by omega), getD_get (show m - i + c < (swR (m - i) m c ys).length by omega)]
    rw [decide_eq_true (show m - i + c < (swR (m - i) m c ys).length by omega), cond_true, List.length_set, idx_nat (j := m + c) (by omega)]
    simp only [Option.bind_some, List.length_set]
    rw [decide_eq_true (show m + c < (swR (m - i) m c ys).length by omega), cond_true]
    rfl
theorem smv5.swap7 {F n5 : Nat} {a s b m i j : Nat} {dom : List Q → Bool} {G : List Q → Int} {ys : List Int} (hl : ys.length ≤ 60) (hi : i ≤ m) (hij : i < j) (hm : m + j ≤ ys.length) (hF : 200 < F) :
    smv5.L7 F F (smv5.t7 (m : Int) (i : Int) (j : Int) dom G (a : Int) (b : Int) (s : Int) 0 ys) (smv5.k7 n5 F) = smv5.L5 F n5 (smv5.t5 (m : Int) dom G (a : Int) (b : Int) (s : Int) (i : Int) ((j - i : Nat) : Int) (swR (m - i) (m + j - i) i ys)) (smv5.k5 F) := by
  refine run_loop (N := i) (fun n c zs => smv5.L7 F n (smv5.t7 (m : Int) (i : Int) (j : Int) dom G (a : Int) (b : Int) (s : Int) (c : Int) zs) (smv5.k7 n5 F)) (fun c zs => zs = swR (m - i) (m + j - i) c ys) ?_ ?_ F 0 ys (by omega) (by omega) rfl
  · rintro n zs rfl
    rw [smv5.s7, decide_eq_false (by omega), cond_false, wSub (by omega) (by omega)]
  · rintro n c zs hc rfl
    have hyl := swR_len (m - i) (m + j - i) c ys
    refine ⟨_, rfl, ?_⟩
    rw [smv5.s7, decide_eq_true (by omega), cond_true, wAdd (a := m) (b := j) (by omega), wSub (a := m + j) (by omega) (by omega), wAdd (a := m + j - i) (by omega), wSub hi (by omega), wAdd (a := m - i) (by omega), w1 (by omega), idx_nat (j := m + j - i + c) (by omega), idx_nat (j := m - i + c) (by omega)]
    simp only [Option.bind_some, getD_get (show m + j - i + c < (swR (m - i) (m + j - i) c ys).length by omega), getD_get (show m - i + c < (swR (m - i) (m + j - i) c ys).length by omega)]
    rw [decide_eq_true (show m - i + c < (swR (m - i) (m + j - i) c ys).length by omega), cond_true, List.length_set, idx_nat (j := m + j - i + c) (by omega)]
    simp only [Option.bind_some, List.length_set]
    rw [decide_eq_true (show m + j - i + c < (swR (m - i) (m + j - i) c ys).length by omega), cond_true]
    rfl
theorem smv5.swap8 {F : Nat} {a s b m i : Nat} {dom : List Q → Bool} {G : List Q → Int} {ys : List Int} (hl : ys.length ≤ 60) (hi : i ≤ m) (hm : m + i ≤ ys.length) (hF : 200 < F) (ham : a ≤ m) (hb : b ≤ 60) (hs : s ≤ m) :
    smv5.L8 F F (smv5.t8 (m : Int) (i : Int) dom G (a : Int) (b : Int) (s : Int) 0 ys) (smv5.k8 F) = tailM ((16 : Nat) : Int) dom G (a : Int) (s : Int) (((a + b) / 2 : Nat) : Int) (((a + b) / 2 + m - s : Nat) : Int) (b : Int) (swR (m - i) m i ys) := by
  refine run_loop (N := i) (fun n c zs => smv5.L8 F n (smv5.t8 (m : Int) (i : Int) dom G (a : Int) (b : Int) (s : Int) (c : Int) zs) (smv5.k8 F)) (fun c zs => zs = swR (m - i) m c ys) ?_ ?_ F 0 ys (by omega) (by omega) rfl
  · rintro n zs rfl
    rw [smv5.s8, decide_eq_false (by omega), cond_false, halfV (by omega), wAdd (a := (a + b) / 2) (by omega), wSub (a := (a + b) / 2 + m) (by omega) (by omega)]
  · rintro n c zs hc rfl
    have hyl := swR_len (m - i) m c ys
    refine ⟨_, rfl, ?_⟩
    rw [smv5.s8, decide_eq_true (by omega), cond_true, wAdd (a := m) (b := c) (by omega), wSub hi (by omega), wAdd (a := m - i) (by omega), w1 (by omega), idx_nat (j := m + c) (by omega), idx_nat (j := m - i + c) (by omega)]
    simp only [Option.bind_some, getD_get (show m + c < (swR (m - i) m c ys).length by omega), getD_get (show m - i + c < (swR (m - i) m c ys).length by omega)]
    rw [decide_eq_true (show m - i + c < (swR (m - i) m c ys).length by omega), cond_true, List.length_set, idx_nat (j := m + c) (by omega)]
    simp only [Option.bind_some, List.length_set]
    rw [decide_eq_true (show m + c < (swR (m - i) m c ys).length by omega), cond_true]
    rfl
theorem smv5.rot {F : Nat} {a s b m : Nat} {dom : List Q → Bool} {G : List Q → Int} (hF : 200 < F) (ham : a ≤ m) (hb : b ≤ 60) (hs : s ≤ m) : ∀ (d n i j : Nat) (ys : List Int), i + j ≤ d → 0 < i → 0 < j → i ≤ m → m + j ≤ ys.length → ys.length ≤ 60 → d < n →
    smv5.L5 F n (smv5.t5 (m : Int) dom G (a : Int) (b : Int) (s : Int) (i : Int) (j : Int) ys) (smv5.k5 F) = tailM ((16 : Nat) : Int) dom G (a : Int) (s : Int) (((a + b) / 2 : Nat) : Int) (((a + b) / 2 + m - s : Nat) : Int) (b : Int) (rotM (m - i) m (m + j) ys) := by
  intro d
  induction d with
  | zero => intro n i j ys h1 h2; omega
  | succ d ih =>
    intro n i j ys h1 h2 h3 h4 h5 h6 h7
    obtain ⟨n, rfl⟩ : ∃ k, n = k + 1 := ⟨n - 1, by omega⟩
    rw [smv5.s5]
    by_cases e1 : i = j
    · subst e1
      rw [show ((i : Int) != (i : Int)) = false by simp, cond_false, smv5.swap8 h6 h4 h5 hF ham hb hs, rotM_eq h4 h5]
    · rw [show ((i : Int) != (j : Int)) = true by rw [bne_iff_ne]; omega, cond_true]
      by_cases e2 : i > j
      · rw [decide_eq_true (by omega), cond_true, smv5.swap6 h6 h4 e2 h5 hF, rotM_gt h4 e2 h5]
        exact ih n (i - j) j _ (by omega) (by omega) h3 (by omega) (by rw [swR_len]; omega) (by rw [swR_len]; omega) (by omega)
      · rw [decide_eq_false (by omega), cond_false, smv5.swap7 h6 h4 (by omega) h5 hF, rotM_lt h4 (by omega) h5]
        exact ih n i (j - i) _ (by omega) h2 (by omega) h4 (by rw [swR_len]; omega) (by rw [swR_len]; omega) (by omega)
theorem smv5.seek {F : Nat} {xs : List Int} {a m b r0 s0 : Nat} {dom : List Q → Bool} {G : List Q → Int} {da : List Int} (hd : domA dom xs = true) (hlt : ltG G = ltD da) (hl : xs.length ≤ 60) (h : MG da a m b xs) (ham : a + 1 < m) (hmb : m + 1 < b) (hsz : b ≤ a + 32) (hF : 200 < F)
    (hr : (m > (a + b) / 2 ∧ r0 = (a + b) / 2 ∧ s0 + b = (a + b) / 2 + m) ∨ (m ≤ (a + b) / 2 ∧ r0 = m ∧ s0 = a)) : ∀ (d n s r : Nat), r - s ≤ d → s0 ≤ s → s ≤ r → r ≤ r0 → (s = s0 ∨ ltD da (xs.getD ((a + b) / 2 + m - s) 0) (xs.getD (s - 1) 0) = false) → (r = r0 ∨ ltD da (xs.getD ((a + b) / 2 + m - 1 - r) 0) (xs.getD r 0) = true) → d < n →
    smv5.L4 F n (smv5.t4 (a : Int) (m : Int) (b : Int) dom G xs (s : Int) (r : Int)) (smv5.k4 F) = some ([], [[(.ints .i64 (segS (ltD da) a b xs))]]) := by
  have hb := h.bl
  have hfin : ∀ n s : Nat, s0 ≤ s → s ≤ r0 → (s = s0 ∨ ltD da (xs.getD ((a + b) / 2 + m - s) 0) (xs.getD (s - 1) 0) = false) → (s = r0 ∨ ltD da (xs.getD ((a + b) / 2 + m - 1 - s) 0) (xs.getD s 0) = true) → smv5.L4 F (n + 1) (smv5.t4 (a : Int) (m : Int) (b : Int) dom G xs (s : Int) (s : Int)) (smv5.k4 F) = some ([], [[(.ints .i64 (segS (ltD da) a b xs))]]) := by
    intro n s g1 g2 g3 g4
    have c1 : s = a ∨ (a + b) / 2 + m - s = b ∨ lexD da (xs.getD (s - 1) 0) (xs.getD ((a + b) / 2 + m - s) 0) := by
      rcases g3 with g3 | g3
      · omega
      · by_cases e : s = a
        · exact .inl e
        by_cases e' : (a + b) / 2 + m - s = b
        · exact .inr (.inl e')
        exact .inr (.inr (lt_lex' g3 (h.lr _ _ (by omega) (by omega) (by omega) (by omega))))
    have c2 : s = m ∨ (a + b) / 2 + m - s = m ∨ lexD da (xs.getD ((a + b) / 2 + m - s - 1) 0) (xs.getD s 0) := by
      rcases g4 with g4 | g4
      · omega
      · refine .inr (.inr ?_)
        rw [show (a + b) / 2 + m - s - 1 = (a + b) / 2 + m - 1 - s by omega]
        exact lt_lex g4
    obtain ⟨j1, j2, j3⟩ := mg_join (q := (a + b) / 2) (e := (a + b) / 2 + m - s) h (by omega) (by omega) (by omega) (by omega) (by omega) (by omega) (by omega) c1 c2
    have hrl := rotM_len (s := s) (m := m) (e := (a + b) / 2 + m - s) (xs := xs) (by omega) (by omega) (by omega)
    have htail := tail_ok (z := 16) hlt (perm_dom hd (rotM_perm (s := s) (m := m) (e := (a + b) / 2 + m - s) (by omega) (by omega))) (by omega) j1 j2 (by omega) (by omega)
    rw [j3] at htail
    rw [smv5.s4, decide_eq_false (by omega), cond_false, halfV (by omega), wAdd (a := (a + b) / 2) (by omega), wSub (a := (a + b) / 2 + m) (by omega) (by omega)]
    by_cases d1 : s < m
    · rw [decide_eq_true (p := (s : Int) < (m : Int)) (by omega), cond_true]
      by_cases d2 : m < (a + b) / 2 + m - s
      · rw [decide_eq_true (p := (m : Int) < (((a + b) / 2 + m - s : Nat) : Int)) (by omega), cond_true, wSub (a := m) (by omega) (by omega), wSub (a := (a + b) / 2 + m - s) (by omega) (by omega)]
        have := smv5.rot (F := F) (a := a) (s := s) (b := b) (m := m) (dom := dom) (G := G) hF (by omega) (by omega) (by omega) 100 F (m - s) ((a + b) / 2 + m - s - m) xs (by omega) (by omega) (by omega) (by omega) (by omega) hl (by omega)
        rw [show m - (m - s) = s by omega, show m + ((a + b) / 2 + m - s - m) = (a + b) / 2 + m - s by omega] at this
        rw [this]
        exact htail
      · rw [rotM_self (by omega) (by omega) (by omega) (.inr (by omega))] at htail
        rw [decide_eq_false (p := (m : Int) < (((a + b) / 2 + m - s : Nat) : Int)) (by omega), cond_false]
        exact htail
    · rw [rotM_self (by omega) (by omega) (by omega) (.inl (by omega))] at htail
      rw [decide_eq_false (p := (s : Int) < (m : Int)) (by omega), cond_false]
      exact htail
  intro d
  induction d with
  | zero =>
    intro n s r h1 h2 h3 h4 h5 h6 h7
    obtain ⟨n, rfl⟩ : ∃ k, n = k + 1 := ⟨n - 1, by omega⟩
    obtain rfl : s = r := by omega
    exact hfin n s h2 h4 h5 h6
  | succ d ih =>
    intro n s r h1 h2 h3 h4 h5 h6 h7
    obtain ⟨n, rfl⟩ : ∃ k, n = k + 1 := ⟨n - 1, by omega⟩
    by_cases hj : s < r
    · have hh : (s + r) / 2 < xs.length := by omega
      have hp : (a + b) / 2 + m - 1 - (s + r) / 2 < xs.length := by omega
      have hdm := domA_get hd (mem_getD hp) (mem_getD hh)
      have hlx := ltG_at hlt (xs.getD ((a + b) / 2 + m - 1 - (s + r) / 2) 0) (xs.getD ((s + r) / 2) 0)
      rw [smv5.s4, decide_eq_true (by omega), cond_true, halfV (by omega), halfV (by omega), wAdd (by omega), wS (x := (((a + b) / 2 + m : Nat) : Int) - 1) (by omega) (by omega), wS (x := (((a + b) / 2 + m : Nat) : Int) - 1 - (((s + r) / 2 : Nat) : Int)) (by omega) (by omega), show (((a + b) / 2 + m : Nat) : Int) - 1 - (((s + r) / 2 : Nat) : Int) = (((a + b) / 2 + m - 1 - (s + r) / 2 : Nat) : Int) by omega, idx_nat hh, idx_nat hp]
      simp only [Option.bind_some, getD_get hh, getD_get hp, hdm, hlx, cond_true]
      cases hc : ltD da (xs.getD ((a + b) / 2 + m - 1 - (s + r) / 2) 0) (xs.getD ((s + r) / 2) 0) with
      | false =>
        rw [Bool.not_false, cond_true, w1 (by omega)]
        exact ih n ((s + r) / 2 + 1) r (by omega) (by omega) (by omega) h4 (.inr (by rw [Nat.add_sub_cancel, show (a + b) / 2 + m - ((s + r) / 2 + 1) = (a + b) / 2 + m - 1 - (s + r) / 2 by omega]; exact hc)) h6 (by omega)
      | true =>
        rw [Bool.not_true, cond_false]
        exact ih n s ((s + r) / 2) (by omega) h2 (by omega) (by omega) h5 (.inr hc) (by omega)
    · obtain rfl : s = r := by omega
      exact hfin n s h2 h4 h5 h6
theorem smv5.ok : CallSpec Try.prog smv5.E := smv5.ok_of (by simp [smv5.X, smv4.ok]) fun xs a m b dom G h => by
  obtain ⟨F, hF⟩ : ∃ F : Nat, 200 < F := ⟨201, by omega⟩
  refine ⟨F, ?_⟩
  simp only [Bool.and_eq_true, decide_eq_true_eq] at h
  obtain ⟨⟨⟨⟨⟨⟨hl, hd⟩, hu⟩, h0⟩, h1⟩, h2⟩, h4⟩ := h
  obtain ⟨a, rfl⟩ : ∃ n : Nat, a = n := ⟨a.toNat, by omega⟩
  obtain ⟨m, rfl⟩ : ∃ n : Nat, m = n := ⟨m.toNat, by omega⟩
  obtain ⟨b, rfl⟩ : ∃ n : Nat, b = n := ⟨b.toNat, by omega⟩
  obtain ⟨da, hlt, hm⟩ := mgW_inv hu
  have hb := hm.bl
  rw [smv5.e, wS (x := (m : Int) - (a : Int)) (by omega) (by omega), wS (x := (b : Int) - (m : Int)) (by omega) (by omega), Int.toNat_natCast, Int.toNat_natCast, hlt]
  by_cases e1 : m = a + 1
  · subst e1
    rw [show ((((a + 1 : Nat) : Int) - (a : Int)) == 1) = true from beq_iff_eq.2 (by omega), cond_true]
    exact smv5.left hd hlt hl hm hF 100 F (a + 1) b (by omega) (by omega) (by omega) (by omega) (.inl rfl) (.inl rfl) (by omega)
  rw [show (((m : Int) - (a : Int)) == 1) = false from beq_eq_false_iff_ne.2 (by omega), cond_false]
  by_cases e2 : b = m + 1
  · subst e2
    rw [show ((((m + 1 : Nat) : Int) - (m : Int)) == 1) = true from beq_iff_eq.2 (by omega), cond_true]
    exact smv5.right hd hlt hl hm hF 100 F a m (by omega) (by omega) (by omega) (by omega) (.inl rfl) (.inl rfl) (by omega)
  rw [show (((b : Int) - (m : Int)) == 1) = false from beq_eq_false_iff_ne.2 (by omega), cond_false]
  rw [halfV (by omega)]
  by_cases e3 : m > (a + b) / 2
  · rw [decide_eq_true (by omega), cond_true, wAdd (by omega), wSub (a := (a + b) / 2 + m) (by omega) (by omega)]
    exact smv5.seek (s0 := (a + b) / 2 + m - b) hd hlt hl hm (by omega) (by omega) (by omega) hF (.inl ⟨e3, rfl, by omega⟩) 100 F _ _ (by omega) (by omega) (by omega) (by omega) (.inl rfl) (.inl rfl) (by omega)
  · rw [decide_eq_false (by omega), cond_false]
    exact smv5.seek (s0 := a) hd hlt hl hm (by omega) (by omega) (by omega) hF (.inr ⟨by omega, rfl, rfl⟩) 100 F _ _ (by omega) (by omega) (by omega) (by omega) (.inl rfl) (.inl rfl) (by omega)

end Go.Ab

import Derived.Test.YtjcfijhgkfdcoaaEg2
import Derived.Test.YtjcfijhgkfdcoaaProg
import Derived.Test.YtjcfijhgkfdcoaaChecked
open Go Go.Ab Go.Proofs
set_option maxRecDepth 100000
set_option linter.unusedVariables false
set_option linter.unusedSimpArgs false
namespace Go.Ab
namespace smv6
noncomputable def E : Entry := ⟨42, false, true, fun | [.rows true [(.i64, xs)], .d (.int .i64 a), .d (.int .i64 m), .d (.int .i64 b), .d (.fn false dom G)] => decide ((xs : List Int).length ≤ 60) && domA dom xs && mgW G xs a m b && decide (0 ≤ a) && decide (a < m) && decide (m < b) && decide (b - a ≤ 64) | _ => false, fun | [.rows true [(.i64, xs)], .d (.int .i64 a), .d (.int .i64 m), .d (.int .i64 b), .d (.fn false dom G)] => ([], [[(.ints .i64 (segS (ltG G) a.toNat b.toNat xs))]]) | _ => ([], []), fun _ => [], false, fun _ => none⟩
end smv6
namespace smv6
noncomputable def X : List Entry := [smv5.E]
noncomputable def I : List Inl := [⟨42, Try.f42, ⟨[], [(40, [5, 6, 7, 8, 9, 10, 11, 12, 13, 14, 15, 16, 17, 19, 21, 22, 23, 25, 26, 27, 28, 29, 30, 31, 32, 33, 34, 35, 36, 37, 38, 39, 40, 41, 42, 43, 44, 45, 46, 47, 48, 49, 50, 51, 52, 53, 54, 55, 56, 57, 58, 59, 60, 61, 62, 63, 64, 65, 66, 67, 68, 69, 70, 71, 72, 73, 74, 75, 76, 77, 78, 79, 80, 81, 82, 83, 84, 85, 86, 87, 88, 89, 90, 91, 92, 93, 94, 95, 96, 97, 98, 99, 100, 101, 102, 103, 104, 105, 106, 107, 108, 109, 110, 111, 112, 113, 114, 115, 116, 117, 118, 119, 120, 121, 122, 123, 124, 125, 126, 127, 128, 129, 130, 131, 132, 133, 134, 135, 136, 137, 138, 139, 140, 141, 142, 143, 144, 145, 146, 147, 148, 149, 150, 151, 152, 153, 154, 155, 156, 157, 158, 159, 160, 161, 162, 163, 164, 165, 166, 167, 168, 169, 170, 171, 172, 173, 174, 175, 176, 177, 178, 179, 180, 181, 182, 183, 184, 185, 186, 187, 188, 189, 190, 191, 192, 193, 194, 195, 196, 197, 198, 199, 200, 201, 202, 203, 204, 205, 206, 207, 208, 209, 210, 211, 212, 213, 214, 215, 216, 217, 218, 219]), (1000003, [2, 3, 5, 6, 7, 8, 9, 12, 13, 14, 15, 16, 17, 18, 19, 20, 21, 22, 23, 24, 25, 26, 27, 28, 29, 30, 31, 32, 33, 34, 35, 36, 37, 38, 39, 40, 41, 42, 43, 44, 45, 46, 47, 48, 49, 50, 51, 52, 53, 54, 55, 56, 57, 58, 59, 60, 61, 62, 63, 64, 65, 66, 67, 68, 69, 70, 71, 72, 73, 74, 75, 76, 77, 78, 79, 80, 81, 82, 83, 84, 85, 86, 87, 88, 89, 90, 91, 92, 93, 94, 95, 96, 97, 98, 99, 100, 101, 102, 103, 104, 105, 106, 107, 108, 109, 110, 111, 112, 113, 114, 115, 116, 117, 118, 119, 120, 121, 122, 123, 124, 125, 126, 127, 128, 129, 130, 131, 132, 133, 134, 135, 136, 137, 138, 139, 140, 141, 142, 143, 144, 145, 146, 147, 148, 149, 150, 151, 152, 153, 154, 155, 156, 157, 158, 159, 160, 161, 162, 163, 164, 165, 166, 167, 168, 169, 170, 171, 172, 173, 174, 175, 176, 177, 178, 179, 180, 181, 182, 183, 184, 185, 186, 187, 188, 189, 190, 191, 192, 193, 194, 195, 196, 197, 198, 199, 200, 201, 202, 203, 204, 205, 206, 207, 208, 209, 210, 211, 212, 213, 214, 215, 216, 217, 218, 219]), (1000009, [1, 2, 3, 4, 5, 6, 7, 8, 9, 11, 12, 14, 15, 16, 17, 18, 19, 20, 21, 22, 23, 24, 25, 26, 27, 28, 29, 30, 31, 32, 33, 34, 35, 36, 37, 38, 39, 40, 41, 42, 43, 44, 45, 46, 47, 48, 49, 50, 51, 52, 53, 54, 55, 56, 57, 58, 59, 60, 61, 62, 63, 64, 65, 66, 67, 68, 69, 70, 71, 72, 73, 74, 75, 76, 77, 78, 79, 80, 81, 82, 83, 84, 85, 86, 87, 88, 89, 90, 91, 92, 93, 94, 95, 96, 97, 98, 99, 100, 101, 102, 103, 104, 105, 106, 107, 108, 109, 110, 111, 112, 113, 114, 115, 116, 117, 118, 119, 120, 121, 122, 123, 124, 125, 126, 127, 128, 129, 130, 131, 132, 133, 134, 135, 136, 137, 138, 139, 140, 141, 142, 143, 144, 145, 146, 147, 148, 149, 150, 151, 152, 153, 154, 155, 156, 157, 158, 159, 160, 161, 162, 163, 164, 165, 166, 167, 168, 169, 170, 171, 172, 173, 174, 175, 176, 177, 178, 179, 180, 181, 182, 183, 184, 185, 186, 187, 188, 189, 190, 191, 192, 193, 194, 195, 196, 197, 198, 199, 200, 201, 202, 203, 204, 205, 206, 207, 208, 209, 210, 211, 212, 213, 214, 215, 216, 217, 218, 219]), (1000015, [1, 3, 5, 6, 7, 8, 9, 10, 11, 12, 13, 16, 17, 18, 19, 20, 21, 22, 23, 24, 25, 26, 27, 28, 29, 30, 31, 32, 33, 34, 35, 36, 37, 38, 39, 40, 41, 42, 43, 44, 45, 46, 47, 48, 49, 50, 51, 52, 53, 54, 55, 56, 57, 58, 59, 60, 61, 62, 63, 64, 65, 66, 67, 68, 69, 70, 71, 72, 73, 74, 75, 76, 77, 78, 79, 80, 81, 82, 83, 84, 85, 86, 87, 88, 89, 90, 91, 92, 93, 94, 95, 96, 97, 98, 99, 100, 101, 102, 103, 104, 105, 106, 107, 108, 109, 110, 111, 112, 113, 114, 115, 116, 117, 118, 119, 120, 121, 122, 123, 124, 125, 126, 127, 128, 129, 130, 131, 132, 133, 134, 135, 136, 137, 138, 139, 140, 141, 142, 143, 144, 145, 146, 147, 148, 149, 150, 151, 152, 153, 154, 155, 156, 157, 158, 159, 160, 161, 162, 163, 164, 165, 166, 167, 168, 169, 170, 171, 172, 173, 174, 175, 176, 177, 178, 179, 180, 181, 182, 183, 184, 185, 186, 187, 188, 189, 190, 191, 192, 193, 194, 195, 196, 197, 198, 199, 200, 201, 202, 203, 204, 205, 206, 207, 208, 209, 210, 211, 212, 213, 214, 215, 216, 217, 218, 219]), (1000021, [1, 2, 3, 4, 5, 6, 7, 8, 9, 10, 11, 12, 13, 15, 16, 18, 19, 20, 21, 22, 23, 24, 25, 26, 27, 28, 29, 30, 31, 32, 33, 34, 35, 36, 37, 38, 39, 40, 41, 42, 43, 44, 45, 46, 47, 48, 49, 50, 51, 52, 53, 54, 55, 56, 57, 58, 59, 60, 61, 62, 63, 64, 65, 66, 67, 68, 69, 70, 71, 72, 73, 74, 75, 76, 77, 78, 79, 80, 81, 82, 83, 84, 85, 86, 87, 88, 89, 90, 91, 92, 93, 94, 95, 96, 97, 98, 99, 100, 101, 102, 103, 104, 105, 106, 107, 108, 109, 110, 111, 112, 113, 114, 115, 116, 117, 118, 119, 120, 121, 122, 123, 124, 125, 126, 127, 128, 129, 130, 131, 132, 133, 134, 135, 136, 137, 138, 139, 140, 141, 142, 143, 144, 145, 146, 147, 148, 149, 150, 151, 152, 153, 154, 155, 156, 157, 158, 159, 160, 161, 162, 163, 164, 165, 166, 167, 168, 169, 170, 171, 172, 173, 174, 175, 176, 177, 178, 179, 180, 181, 182, 183, 184, 185, 186, 187, 188, 189, 190, 191, 192, 193, 194, 195, 196, 197, 198, 199, 200, 201, 202, 203, 204, 205, 206, 207, 208, 209, 210, 211, 212, 213, 214, 215, 216, 217, 218, 219]), (1000033, [5, 6, 7, 8, 9, 10, 11, 12, 13, 14, 15, 16, 17, 23, 24, 25, 26, 27, 28, 29, 30, 31, 32, 33, 34, 35, 36, 37, 38, 39, 40, 41, 42, 43, 44, 45, 46, 47, 48, 49, 50, 51, 52, 53, 54, 55, 56, 57, 58, 59, 60, 61, 62, 63, 64, 65, 66, 67, 68, 69, 70, 71, 72, 73, 74, 75, 76, 77, 78, 79, 80, 81, 82, 83, 84, 85, 86, 87, 88, 89, 90, 91, 92, 93, 94, 95, 96, 97, 98, 99, 100, 101, 102, 103, 104, 105, 106, 107, 108, 109, 110, 111, 112, 113, 114, 115, 116, 117, 118, 119, 120, 121, 122, 123, 124, 125, 126, 127, 128, 129, 130, 131, 132, 133, 134, 135, 136, 137, 138, 139, 140, 141, 142, 143, 144, 145, 146, 147, 148, 149, 150, 151, 152, 153, 154, 155, 156, 157, 158, 159, 160, 161, 162, 163, 164, 165, 166, 167, 168, 169, 170, 171, 172, 173, 174, 175, 176, 177, 178, 179, 180, 181, 182, 183, 184, 185, 186, 187, 188, 189, 190, 191, 192, 193, 194, 195, 196, 197, 198, 199, 200, 201, 202, 203, 204, 205, 206, 207, 208, 209, 210, 211, 212, 213, 214, 215, 216, 217, 218, 219])], [], [(5, [0, 1, 2, 5, 6, 3, 4, 7, 8, 9, 10]), (11, [0, 1, 2, 3, 4, 5, 6, 7, 10, 11, 8, 9, 12, 13, 14, 15, 16, 17]), (17, [0, 1, 2, 5, 6, 3, 4, 7, 8, 9, 10, 11]), (23, [0, 1, 2, 3, 4, 5, 6, 7, 10, 11, 8, 9, 12, 13, 14, 15, 16, 17]), (35, [0, 1, 2, 3, 4, 7, 8, 5, 6, 9, 10, 11, 12, 13])], [], []⟩⟩, ⟨44, Try.f44, ⟨[], [(4, [1, 3, 5, 6, 7, 8, 9, 12, 13, 14, 15, 16, 17, 18, 19, 20, 21, 22, 23, 24, 25, 26, 27, 28, 29, 30, 31, 32, 33, 34, 35, 36, 37, 38, 39, 40, 41, 42, 43, 44, 45, 46, 47, 48, 49, 50, 51, 52, 53, 54, 55, 56, 57]), (6, [1, 3, 5, 6, 7, 8, 9, 12, 13, 14, 15, 16, 17, 18, 19, 20, 21, 22, 23, 24, 25, 26, 27, 28, 29, 30, 31, 32, 33, 34, 35, 36, 37, 38, 39, 40, 41, 42, 43, 44, 45, 46, 47, 48, 49, 50, 51, 52, 53, 54, 55, 56, 57]), (8, [1, 3, 5, 6, 7, 8, 9, 11, 12, 13, 14, 15, 16, 17, 18, 19, 20, 21, 22, 23, 24, 25, 26, 27, 28, 29, 30, 31, 32, 33, 34, 35, 36, 37, 38, 39, 40, 41, 42, 43, 44, 45, 46, 47, 48, 49, 50, 51, 52, 53, 54, 55, 56, 57]), (1000002, [1, 3, 5, 6, 7, 8, 9, 12, 13, 14, 15, 16, 17, 18, 19, 20, 21, 22, 23, 24, 25, 26, 27, 28, 29, 30, 31, 32, 33, 34, 35, 36, 37, 38, 39, 40, 41, 42, 43, 44, 45, 46, 47, 48, 49, 50, 51, 52, 53, 54, 55, 56, 57])], [], [], [], []⟩⟩, ⟨45, Try.f45, ⟨[], [(1000001, [4, 5, 6, 7, 8, 9, 11, 12, 13, 14, 15, 16, 17, 18, 19, 20, 21, 22, 23, 24, 25, 26, 27, 28, 29, 30, 31, 32, 33, 34, 35, 36, 37])], [], [(3, [0, 1, 2, 3, 4, 5, 6, 7, 8, 9, 10, 11, 14, 15, 16, 17, 12, 13, 18, 19, 20, 21, 22, 23])], [], []⟩⟩]
theorem I_ok : ∀ i ∈ I, Try.prog.funcs[i.f]? = some i.fn ∧ (i.fn.name == "runtime.NumGoroutine") = false := by
  intro i hi
  simp only [I, List.mem_cons, List.not_mem_nil, or_false] at hi
  rcases hi with rfl | rfl | rfl
  all_goals exact ⟨by kernel_rfl, by kernel_rfl⟩
noncomputable abbrev L0 (fuel n : Nat) (s : St) (k : Kont) := lAt Try.prog X I fuel false 4 false 42 (bodyOf Try.f42) [0, 1, 0, 1, 1, 0, 0] n s k
noncomputable abbrev k0  (fuel : Nat) : Kont := (kAt Try.prog X I fuel false 4 false 42 (bodyOf Try.f42) [0, 1, 0, 1, 1, 0, 0] [] (endK Try.prog Try.f42))
noncomputable def t0 (p1 : Int) (p4d : List Q → Bool) (p4g : List Q → Int) (p0 : List Int) (x0q3 : Int) (x0q4 : Int) : St := ⟨[(.all 1000000000 1), (.imm (.int .i64 p1)), .dead, .dead, (.imm (.fn false p4d p4g)), .dead, .dead, .dead, .dead, .dead, (.imm (.int .i64 x0q3)), (.imm (.int .i64 x0q4)), .dead, .dead, .dead, .dead, .dead, .dead, .dead, .dead, .dead, .dead, .dead, .dead, .dead, .dead, .dead, .dead, .dead, .dead, .dead, .dead, .dead, .dead, .dead, .dead, .dead, .dead, .dead, .dead, .dead, .dead, .dead, .dead, .dead, .dead, .dead, .dead, .dead, .dead, .dead, .dead, .dead, .dead, .dead, .dead, .dead, .dead, .dead, .dead, .dead, .dead, .dead, .dead, .dead, .dead, .dead, .dead, .dead, .dead, .dead, .dead, .dead, .dead, .dead, .dead, .dead, .dead, .dead, .dead, .dead, .dead, .dead, .dead, .dead, .dead, .dead, .dead, .dead, .dead, .dead, .dead, .dead, .dead, .dead, .dead, .dead, .dead, .dead, .dead, .dead, .dead, .dead, .dead, .dead, .dead, .dead, .dead, .dead, .dead, .dead, .dead, .dead, .dead, .dead, .dead, .dead, .dead, .dead, .dead, .dead, .dead, .dead, .dead, .dead, .dead, .dead, .dead, .dead, .dead, .dead, .dead, .dead, .dead, .dead, .dead, .dead, .dead, .dead, .dead, .dead, .dead, .dead, .dead, .dead, .dead, .dead, .dead, .dead, .dead, .dead, .dead, .dead, .dead, .dead, .dead, .dead, .dead, .dead, .dead, .dead, .dead, .dead, .dead, .dead, .dead, .dead, .dead, .dead, .dead, .dead, .dead, .dead, .dead, .dead, .dead, .dead, .dead, .dead, .dead, .dead, .dead, .dead, .dead, .dead, .dead, .dead, .dead, .dead, .dead, .dead, .dead, .dead, .dead, .dead, .dead, .dead, .dead, .dead, .dead, .dead, .dead, .dead, .dead, .dead, .dead, .dead, .dead, .dead, .dead, .dead, .dead, .dead, .dead, .dead, .dead, .dead, .dead, .dead, .dead], hOf [(1000000000, (.ints .i64 p0))], [(.all 1000000000 1)], []⟩
noncomputable abbrev L1 (fuel n : Nat) (s : St) (k : Kont) := lAt Try.prog X I fuel false 4 false 42 (bodyOf Try.f42) [0, 1, 0, 1, 1, 1, 0, 1, 0] n s k
noncomputable abbrev k1  (fuel : Nat) : Kont := (kAt Try.prog X I fuel false 4 false 42 (bodyOf Try.f42) [0, 1, 0, 1, 1, 1, 0, 1, 0] [] (endK Try.prog Try.f42))
noncomputable def t1 (x0q3 : Int) (x1q1 : Int) (x1q2 : List Int) : St := ⟨[(.all 1000000000 1), .dead, .dead, .dead, .dead, .dead, .dead, .dead, .dead, .dead, (.imm (.int .i64 x0q3)), .dead, .dead, (.imm (.int .i64 x1q1)), .dead, .dead, .dead, .dead, .dead, .dead, .dead, .dead, .dead, .dead, .dead, .dead, .dead, .dead, .dead, .dead, .dead, .dead, .dead, .dead, .dead, .dead, .dead, .dead, .dead, .dead, .dead, .dead, .dead, .dead, .dead, .dead, .dead, .dead, .dead, .dead, .dead, .dead, .dead, .dead, .dead, .dead, .dead, .dead, .dead, .dead, .dead, .dead, .dead, .dead, .dead, .dead, .dead, .dead, .dead, .dead, .dead, .dead, .dead, .dead, .dead, .dead, .dead, .dead, .dead, .dead, .dead, .dead, .dead, .dead, .dead, .dead, .dead, .dead, .dead, .dead, .dead, .dead, .dead, .dead, .dead, .dead, .dead, .dead, .dead, .dead, .dead, .dead, .dead, .dead, .dead, .dead, .dead, .dead, .dead, .dead, .dead, .dead, .dead, .dead, .dead, .dead, .dead, .dead, .dead, .dead, .dead, .dead, .dead, .dead, .dead, .dead, .dead, .dead, .dead, .dead, .dead, .dead, .dead, .dead, .dead, .dead, .dead, .dead, .dead, .dead, .dead, .dead, .dead, .dead, .dead, .dead, .dead, .dead, .dead, .dead, .dead, .dead, .dead, .dead, .dead, .dead, .dead, .dead, .dead, .dead, .dead, .dead, .dead, .dead, .dead, .dead, .dead, .dead, .dead, .dead, .dead, .dead, .dead, .dead, .dead, .dead, .dead, .dead, .dead, .dead, .dead, .dead, .dead, .dead, .dead, .dead, .dead, .dead, .dead, .dead, .dead, .dead, .dead, .dead, .dead, .dead, .dead, .dead, .dead, .dead, .dead, .dead, .dead, .dead, .dead, .dead, .dead, .dead, .dead, .dead, .dead, .dead, .dead, .dead, .dead, .dead, .dead, .dead, .dead, .dead], hOf [(1000000000, (.ints .i64 x1q2))], [(.all 1000000000 1)], []⟩
noncomputable abbrev L2 (fuel n : Nat) (s : St) (k : Kont) := lAt Try.prog X I fuel false 4 false 42 (bodyOf Try.f42) [1, 0, 1, 0, 1, 1, 0, 0] n s k
noncomputable abbrev k2  (fuel : Nat) : Kont := (kAt Try.prog X I fuel false 4 false 42 (bodyOf Try.f42) [1, 0, 1, 0, 1, 1, 0, 0] [] (endK Try.prog Try.f42))
noncomputable def t2 (p2 : Int) (p4d : List Q → Bool) (p4g : List Q → Int) (p0 : List Int) (x2q3 : Int) (x2q4 : Int) : St := ⟨[(.all 1000000000 1), .dead, (.imm (.int .i64 p2)), .dead, (.imm (.fn false p4d p4g)), .dead, .dead, .dead, .dead, .dead, .dead, .dead, .dead, .dead, (.imm (.int .i64 x2q3)), (.imm (.int .i64 x2q4)), .dead, .dead, .dead, .dead, .dead, .dead, .dead, .dead, .dead, .dead, .dead, .dead, .dead, .dead, .dead, .dead, .dead, .dead, .dead, .dead, .dead, .dead, .dead, .dead, .dead, .dead, .dead, .dead, .dead, .dead, .dead, .dead, .dead, .dead, .dead, .dead, .dead, .dead, .dead, .dead, .dead, .dead, .dead, .dead, .dead, .dead, .dead, .dead, .dead, .dead, .dead, .dead, .dead, .dead, .dead, .dead, .dead, .dead, .dead, .dead, .dead, .dead, .dead, .dead, .dead, .dead, .dead, .dead, .dead, .dead, .dead, .dead, .dead, .dead, .dead, .dead, .dead, .dead, .dead, .dead, .dead, .dead, .dead, .dead, .dead, .dead, .dead, .dead, .dead, .dead, .dead, .dead, .dead, .dead, .dead, .dead, .dead, .dead, .dead, .dead, .dead, .dead, .dead, .dead, .dead, .dead, .dead, .dead, .dead, .dead, .dead, .dead, .dead, .dead, .dead, .dead, .dead, .dead, .dead, .dead, .dead, .dead, .dead, .dead, .dead, .dead, .dead, .dead, .dead, .dead, .dead, .dead, .dead, .dead, .dead, .dead, .dead, .dead, .dead, .dead, .dead, .dead, .dead, .dead, .dead, .dead, .dead, .dead, .dead, .dead, .dead, .dead, .dead, .dead, .dead, .dead, .dead, .dead, .dead, .dead, .dead, .dead, .dead, .dead, .dead, .dead, .dead, .dead, .dead, .dead, .dead, .dead, .dead, .dead, .dead, .dead, .dead, .dead, .dead, .dead, .dead, .dead, .dead, .dead, .dead, .dead, .dead, .dead, .dead, .dead, .dead, .dead, .dead, .dead, .dead, .dead, .dead, .dead, .dead, .dead, .dead, .dead, .dead, .dead], hOf [(1000000000, (.ints .i64 p0))], [(.all 1000000000 1)], []⟩
noncomputable abbrev L3 (fuel n : Nat) (s : St) (k : Kont) := lAt Try.prog X I fuel false 4 false 42 (bodyOf Try.f42) [1, 0, 1, 0, 1, 1, 1, 0, 1, 0] n s k
noncomputable abbrev k3  (fuel : Nat) : Kont := (kAt Try.prog X I fuel false 4 false 42 (bodyOf Try.f42) [1, 0, 1, 0, 1, 1, 1, 0, 1, 0] [] (endK Try.prog Try.f42))
noncomputable def t3 (x2q3 : Int) (x3q1 : Int) (x3q2 : List Int) : St := ⟨[(.all 1000000000 1), .dead, .dead, .dead, .dead, .dead, .dead, .dead, .dead, .dead, .dead, .dead, .dead, .dead, (.imm (.int .i64 x2q3)), .dead, .dead, (.imm (.int .i64 x3q1)), .dead, .dead, .dead, .dead, .dead, .dead, .dead, .dead, .dead, .dead, .dead, .dead, .dead, .dead, .dead, .dead, .dead, .dead, .dead, .dead, .dead, .dead, .dead, .dead, .dead, .dead, .dead, .dead, .dead, .dead, .dead, .dead, .dead, .dead, .dead, .dead, .dead, .dead, .dead, .dead, .dead, .dead, .dead, .dead, .dead, .dead, .dead, .dead, .dead, .dead, .dead, .dead, .dead, .dead, .dead, .dead, .dead, .dead, .dead, .dead, .dead, .dead, .dead, .dead, .dead, .dead, .dead, .dead, .dead, .dead, .dead, .dead, .dead, .dead, .dead, .dead, .dead, .dead, .dead, .dead, .dead, .dead, .dead, .dead, .dead, .dead, .dead, .dead, .dead, .dead, .dead, .dead, .dead, .dead, .dead, .dead, .dead, .dead, .dead, .dead, .dead, .dead, .dead, .dead, .dead, .dead, .dead, .dead, .dead, .dead, .dead, .dead, .dead, .dead, .dead, .dead, .dead, .dead, .dead, .dead, .dead, .dead, .dead, .dead, .dead, .dead, .dead, .dead, .dead, .dead, .dead, .dead, .dead, .dead, .dead, .dead, .dead, .dead, .dead, .dead, .dead, .dead, .dead, .dead, .dead, .dead, .dead, .dead, .dead, .dead, .dead, .dead, .dead, .dead, .dead, .dead, .dead, .dead, .dead, .dead, .dead, .dead, .dead, .dead, .dead, .dead, .dead, .dead, .dead, .dead, .dead, .dead, .dead, .dead, .dead, .dead, .dead, .dead, .dead, .dead, .dead, .dead, .dead, .dead, .dead, .dead, .dead, .dead, .dead, .dead, .dead, .dead, .dead, .dead, .dead, .dead, .dead, .dead, .dead, .dead, .dead, .dead], hOf [(1000000000, (.ints .i64 x3q2))], [(.all 1000000000 1)], []⟩
noncomputable abbrev L4 (fuel n : Nat) (s : St) (k : Kont) := lAt Try.prog X I fuel false 4 false 42 (bodyOf Try.f42) [1, 1, 1, 1, 1, 1, 1, 0, 0] n s k
noncomputable abbrev k4  (fuel : Nat) : Kont := (kAt Try.prog X I fuel false 4 false 42 (bodyOf Try.f42) [1, 1, 1, 1, 1, 1, 1, 0, 0] [] (endK Try.prog Try.f42))
noncomputable def t4 (p1 : Int) (p2 : Int) (p3 : Int) (p4d : List Q → Bool) (p4g : List Q → Int) (p0 : List Int) (x4q7 : Int) (x4q8 : Int) : St := ⟨[(.all 1000000000 1), (.imm (.int .i64 p1)), (.imm (.int .i64 p2)), (.imm (.int .i64 p3)), (.imm (.fn false p4d p4g)), .dead, .dead, .dead, .dead, .dead, .dead, .dead, .dead, .dead, .dead, .dead, .dead, .dead, (.imm (.int .i64 (halfI p1 p3))), (.imm (.int .i64 (IntKind.wrap .i64 ((halfI p1 p3) + p2)))), (.imm (.int .i64 x4q7)), (.imm (.int .i64 x4q8)), (.imm (.int .i64 (IntKind.wrap .i64 ((IntKind.wrap .i64 ((halfI p1 p3) + p2)) - 1)))), .dead, .dead, .dead, .dead, .dead, .dead, .dead, .dead, .dead, .dead, .dead, .dead, .dead, .dead, .dead, .dead, .dead, .dead, .dead, .dead, .dead, .dead, .dead, .dead, .dead, .dead, .dead, .dead, .dead, .dead, .dead, .dead, .dead, .dead, .dead, .dead, .dead, .dead, .dead, .dead, .dead, .dead, .dead, .dead, .dead, .dead, .dead, .dead, .dead, .dead, .dead, .dead, .dead, .dead, .dead, .dead, .dead, .dead, .dead, .dead, .dead, .dead, .dead, .dead, .dead, .dead, .dead, .dead, .dead, .dead, .dead, .dead, .dead, .dead, .dead, .dead, .dead, .dead, .dead, .dead, .dead, .dead, .dead, .dead, .dead, .dead, .dead, .dead, .dead, .dead, .dead, .dead, .dead, .dead, .dead, .dead, .dead, .dead, .dead, .dead, .dead, .dead, .dead, .dead, .dead, .dead, .dead, .dead, .dead, .dead, .dead, .dead, .dead, .dead, .dead, .dead, .dead, .dead, .dead, .dead, .dead, .dead, .dead, .dead, .dead, .dead, .dead, .dead, .dead, .dead, .dead, .dead, .dead, .dead, .dead, .dead, .dead, .dead, .dead, .dead, .dead, .dead, .dead, .dead, .dead, .dead, .dead, .dead, .dead, .dead, .dead, .dead, .dead, .dead, .dead, .dead, .dead, .dead, .dead, .dead, .dead, .dead, .dead, .dead, .dead, .dead, .dead, .dead, .dead, .dead, .dead, .dead, .dead, .dead, .dead, .dead, .dead, .dead, .dead, .dead, .dead, .dead, .dead, .dead, .dead, .dead, .dead, .dead, .dead, .dead, .dead, .dead, .dead, .dead, .dead, .dead, .dead], hOf [(1000000000, (.ints .i64 p0))], [(.all 1000000000 1)], []⟩
noncomputable abbrev L5 (fuel n : Nat) (s : St) (k : Kont) := lAt Try.prog X I fuel false 3 false 44 (bodyOf Try.f44) [1, 1, 0, 0] n s k
noncomputable abbrev k5  (fuel : Nat) : Kont := (kAt Try.prog X I fuel false 3 false 44 (bodyOf Try.f44) [1, 1, 0, 0] [] (endFn Try.prog Try.f44 220 (kOp Try.prog X I fuel false 4 42 (cAt (bodyOf Try.f42) [1, 1, 1, 1, 1, 1, 1, 1, 1, 0, 1, 0]) 5 (kAt Try.prog X I fuel false 4 false 42 (bodyOf Try.f42) [1, 1, 1, 1, 1, 1, 1, 1, 1, 0, 1, 0] [] (endK Try.prog Try.f42)))))
noncomputable def t5 (p2 : Int) (p4d : List Q → Bool) (p4g : List Q → Int) (p1 : Int) (p3 : Int) (x4q7 : Int) (x5q3 : Int) (x5q4 : Int) (x5q5 : List Int) : St := ⟨[(.all 1000000000 1), .dead, (.imm (.int .i64 p2)), .dead, (.imm (.fn false p4d p4g)), .dead, .dead, .dead, .dead, .dead, (.imm (.int .i64 x5q3)), (.imm (.int .i64 x5q4)), .dead, .dead, .dead, .dead, .dead, .dead, .dead, .dead, .dead, .dead, .dead, .dead, .dead, .dead, .dead, .dead, .dead, .dead, .dead, .dead, .dead, .dead, .dead, .dead, .dead, .dead, .dead, .dead, .dead, .dead, .dead, .dead, .dead, .dead, .dead, .dead, .dead, .dead, .dead, .dead, .dead, .dead, .dead, .dead, .dead, .dead], hOf [(1000000000, (.ints .i64 x5q5))], [(.all 1000000000 1), (.imm (.int .i64 p1)), (.imm (.int .i64 p2)), (.imm (.int .i64 p3)), (.imm (.fn false p4d p4g)), .dead, .dead, .dead, .dead, .dead, .dead, .dead, .dead, .dead, .dead, .dead, .dead, .dead, (.imm (.int .i64 (halfI p1 p3))), .dead, (.imm (.int .i64 x4q7)), .dead, .dead, .dead, (.imm (.int .i64 (IntKind.wrap .i64 ((IntKind.wrap .i64 ((halfI p1 p3) + p2)) - x4q7)))), .dead, .dead, .dead, .dead, .dead, .dead, .dead, .dead, .dead, .dead, .dead, .dead, .dead, .dead, .dead, .dead, .dead, .dead, .dead, .dead, .dead, .dead, .dead, .dead, .dead, .dead, .dead, .dead, .dead, .dead, .dead, .dead, .dead, .dead, .dead, .dead, .dead, .dead, .dead, .dead, .dead, .dead, .dead, .dead, .dead, .dead, .dead, .dead, .dead, .dead, .dead, .dead, .dead, .dead, .dead, .dead, .dead, .dead, .dead, .dead, .dead, .dead, .dead, .dead, .dead, .dead, .dead, .dead, .dead, .dead, .dead, .dead, .dead, .dead, .dead, .dead, .dead, .dead, .dead, .dead, .dead, .dead, .dead, .dead, .dead, .dead, .dead, .dead, .dead, .dead, .dead, .dead, .dead, .dead, .dead, .dead, .dead, .dead, .dead, .dead, .dead, .dead, .dead, .dead, .dead, .dead, .dead, .dead, .dead, .dead, .dead, .dead, .dead, .dead, .dead, .dead, .dead, .dead, .dead, .dead, .dead, .dead, .dead, .dead, .dead, .dead, .dead, .dead, .dead, .dead, .dead, .dead, .dead, .dead, .dead, .dead, .dead, .dead, .dead, .dead, .dead, .dead, .dead, .dead, .dead, .dead, .dead, .dead, .dead, .dead, .dead, .dead, .dead, .dead, .dead, .dead, .dead, .dead, .dead, .dead, .dead, (.all 1000000000 1), (.imm (.int .i64 x4q7)), (.imm (.int .i64 p2)), (.imm (.int .i64 (IntKind.wrap .i64 ((IntKind.wrap .i64 ((halfI p1 p3) + p2)) - x4q7)))), (.imm (.fn false p4d p4g)), .dead, .dead, .dead, .dead, .dead, .dead, .dead, .dead, .dead, .dead, .dead, .dead, .dead, .dead, .dead, .dead, .dead, .dead, .dead, .dead, .dead, .dead, .dead, .dead, .dead, .dead, .dead, .dead, .dead, (.tup []), (.all 1000000000 1)], []⟩
noncomputable abbrev L6 (fuel n : Nat) (s : St) (k : Kont) := lAt Try.prog X I fuel false 2 false 45 (bodyOf Try.f45) [1, 0] n s k
noncomputable abbrev k6 (n5 : Nat) (fuel : Nat) : Kont := (kAt Try.prog X I fuel false 2 false 45 (bodyOf Try.f45) [1, 0] [] (endFn Try.prog Try.f45 58 (kOp Try.prog X I fuel false 3 44 (cAt (bodyOf Try.f44) [1, 1, 0, 0, 0, 1, 0, 1, 0, 0]) 7 (kAt Try.prog X I fuel false 3 false 44 (bodyOf Try.f44) [1, 1, 0, 0, 0, 1, 0, 1, 0, 0] [n5] (endFn Try.prog Try.f44 220 (kOp Try.prog X I fuel false 4 42 (cAt (bodyOf Try.f42) [1, 1, 1, 1, 1, 1, 1, 1, 1, 0, 1, 0]) 5 (kAt Try.prog X I fuel false 4 false 42 (bodyOf Try.f42) [1, 1, 1, 1, 1, 1, 1, 1, 1, 0, 1, 0] [] (endK Try.prog Try.f42))))))))
noncomputable def t6 (p2 : Int) (x5q3 : Int) (x5q4 : Int) (p4d : List Q → Bool) (p4g : List Q → Int) (p1 : Int) (p3 : Int) (x4q7 : Int) (x6q3 : Int) (x6q4 : List Int) : St := ⟨[(.all 1000000000 1), (.imm (.int .i64 (IntKind.wrap .i64 (p2 - x5q3)))), (.imm (.int .i64 p2)), (.imm (.int .i64 x5q4)), .dead, .dead, .dead, .dead, .dead, .dead, (.imm (.int .i64 x6q3)), .dead, .dead, .dead, .dead, .dead, .dead, .dead, .dead, .dead, .dead, .dead, .dead, .dead, .dead, .dead, .dead, .dead, .dead, .dead, .dead, .dead, .dead, .dead, .dead, .dead, .dead, .dead], hOf [(1000000000, (.ints .i64 x6q4))], [(.all 1000000000 1), .dead, (.imm (.int .i64 p2)), .dead, (.imm (.fn false p4d p4g)), .dead, .dead, .dead, .dead, .dead, (.imm (.int .i64 x5q3)), (.imm (.int .i64 x5q4)), .dead, .dead, .dead, .dead, .dead, .dead, .dead, .dead, .dead, .dead, .dead, .dead, (.all 1000000000 1), (.imm (.int .i64 p2)), (.imm (.int .i64 x5q3)), (.imm (.int .i64 (IntKind.wrap .i64 (p2 - x5q3)))), (.imm (.int .i64 p2)), (.imm (.int .i64 x5q4)), (.imm (.fn false p4d p4g)), .dead, .dead, .dead, .dead, .dead, .dead, .dead, .dead, .dead, .dead, .dead, .dead, .dead, .dead, .dead, .dead, .dead, .dead, .dead, .dead, .dead, .dead, .dead, .dead, .dead, .dead, .dead, (.tup []), (.all 1000000000 1), (.imm (.int .i64 p1)), (.imm (.int .i64 p2)), (.imm (.int .i64 p3)), (.imm (.fn false p4d p4g)), .dead, .dead, .dead, .dead, .dead, .dead, .dead, .dead, .dead, .dead, .dead, .dead, .dead, (.imm (.int .i64 (halfI p1 p3))), .dead, (.imm (.int .i64 x4q7)), .dead, .dead, .dead, (.imm (.int .i64 (IntKind.wrap .i64 ((IntKind.wrap .i64 ((halfI p1 p3) + p2)) - x4q7)))), .dead, .dead, .dead, .dead, .dead, .dead, .dead, .dead, .dead, .dead, .dead, .dead, .dead, .dead, .dead, .dead, .dead, .dead, .dead, .dead, .dead, .dead, .dead, .dead, .dead, .dead, .dead, .dead, .dead, .dead, .dead, .dead, .dead, .dead, .dead, .dead, .dead, .dead, .dead, .dead, .dead, .dead, .dead, .dead, .dead, .dead, .dead, .dead, .dead, .dead, .dead, .dead, .dead, .dead, .dead, .dead, .dead, .dead, .dead, .dead, .dead, .dead, .dead, .dead, .dead, .dead, .dead, .dead, .dead, .dead, .dead, .dead, .dead, .dead, .dead, .dead, .dead, .dead, .dead, .dead, .dead, .dead, .dead, .dead, .dead, .dead, .dead, .dead, .dead, .dead, .dead, .dead, .dead, .dead, .dead, .dead, .dead, .dead, .dead, .dead, .dead, .dead, .dead, .dead, .dead, .dead, .dead, .dead, .dead, .dead, .dead, .dead, .dead, .dead, .dead, .dead, .dead, .dead, .dead, .dead, .dead, .dead, .dead, .dead, .dead, .dead, .dead, .dead, .dead, .dead, .dead, .dead, .dead, .dead, .dead, .dead, .dead, .dead, .dead, .dead, .dead, .dead, .dead, .dead, .dead, .dead, .dead, .dead, .dead, .dead, .dead, .dead, .dead, .dead, .dead, .dead, .dead, .dead, .dead, .dead, .dead, (.all 1000000000 1), (.imm (.int .i64 x4q7)), (.imm (.int .i64 p2)), (.imm (.int .i64 (IntKind.wrap .i64 ((IntKind.wrap .i64 ((halfI p1 p3) + p2)) - x4q7)))), (.imm (.fn false p4d p4g)), .dead, .dead, .dead, .dead, .dead, .dead, .dead, .dead, .dead, .dead, .dead, .dead, .dead, .dead, .dead, .dead, .dead, .dead, .dead, .dead, .dead, .dead, .dead, .dead, .dead, .dead, .dead, .dead, .dead, (.tup []), (.all 1000000000 1)], []⟩
noncomputable abbrev L7 (fuel n : Nat) (s : St) (k : Kont) := lAt Try.prog X I fuel false 2 false 45 (bodyOf Try.f45) [1, 0] n s k
noncomputable abbrev k7 (n5 : Nat) (fuel : Nat) : Kont := (kAt Try.prog X I fuel false 2 false 45 (bodyOf Try.f45) [1, 0] [] (endFn Try.prog Try.f45 58 (kOp Try.prog X I fuel false 3 44 (cAt (bodyOf Try.f44) [1, 1, 0, 0, 0, 1, 0, 1, 1, 0]) 11 (kAt Try.prog X I fuel false 3 false 44 (bodyOf Try.f44) [1, 1, 0, 0, 0, 1, 0, 1, 1, 0] [n5] (endFn Try.prog Try.f44 220 (kOp Try.prog X I fuel false 4 42 (cAt (bodyOf Try.f42) [1, 1, 1, 1, 1, 1, 1, 1, 1, 0, 1, 0]) 5 (kAt Try.prog X I fuel false 4 false 42 (bodyOf Try.f42) [1, 1, 1, 1, 1, 1, 1, 1, 1, 0, 1, 0] [] (endK Try.prog Try.f42))))))))
noncomputable def t7 (p2 : Int) (x5q3 : Int) (x5q4 : Int) (p4d : List Q → Bool) (p4g : List Q → Int) (p1 : Int) (p3 : Int) (x4q7 : Int) (x7q3 : Int) (x7q4 : List Int) : St := ⟨[(.all 1000000000 1), (.imm (.int .i64 (IntKind.wrap .i64 (p2 - x5q3)))), (.imm (.int .i64 (IntKind.wrap .i64 ((IntKind.wrap .i64 (p2 + x5q4)) - x5q3)))), (.imm (.int .i64 x5q3)), .dead, .dead, .dead, .dead, .dead, .dead, (.imm (.int .i64 x7q3)), .dead, .dead, .dead, .dead, .dead, .dead, .dead, .dead, .dead, .dead, .dead, .dead, .dead, .dead, .dead, .dead, .dead, .dead, .dead, .dead, .dead, .dead, .dead, .dead, .dead, .dead, .dead], hOf [(1000000000, (.ints .i64 x7q4))], [(.all 1000000000 1), .dead, (.imm (.int .i64 p2)), .dead, (.imm (.fn false p4d p4g)), .dead, .dead, .dead, .dead, .dead, (.imm (.int .i64 x5q3)), (.imm (.int .i64 x5q4)), .dead, .dead, .dead, .dead, .dead, .dead, .dead, .dead, .dead, .dead, .dead, .dead, .dead, .dead, .dead, .dead, .dead, .dead, .dead, .dead, .dead, .dead, .dead, (.all 1000000000 1), (.imm (.int .i64 p2)), (.imm (.int .i64 x5q3)), (.imm (.int .i64 (IntKind.wrap .i64 (p2 - x5q3)))), (.imm (.int .i64 p2)), (.imm (.int .i64 x5q4)), (.imm (.int .i64 (IntKind.wrap .i64 (p2 + x5q4)))), (.imm (.int .i64 x5q3)), (.imm (.int .i64 (IntKind.wrap .i64 ((IntKind.wrap .i64 (p2 + x5q4)) - x5q3)))), (.imm (.int .i64 x5q3)), (.imm (.fn false p4d p4g)), .dead, .dead, .dead, .dead, .dead, .dead, .dead, .dead, .dead, .dead, .dead, .dead, (.tup []), (.all 1000000000 1), (.imm (.int .i64 p1)), (.imm (.int .i64 p2)), (.imm (.int .i64 p3)), (.imm (.fn false p4d p4g)), .dead, .dead, .dead, .dead, .dead, .dead, .dead, .dead, .dead, .dead, .dead, .dead, .dead, (.imm (.int .i64 (halfI p1 p3))), .dead, (.imm (.int .i64 x4q7)), .dead, .dead, .dead, (.imm (.int .i64 (IntKind.wrap .i64 ((IntKind.wrap .i64 ((halfI p1 p3) + p2)) - x4q7)))), .dead, .dead, .dead, .dead, .dead, .dead, .dead, .dead, .dead, .dead, .dead, .dead, .dead, .dead, .dead, .dead, .dead, .dead, .dead, .dead, .dead, .dead, .dead, .dead, .dead, .dead, .dead, .dead, .dead, .dead, .dead, .dead, .dead, .dead, .dead, .dead, .dead, .dead, .dead, .dead, .dead, .dead, .dead, .dead, .dead, .dead, .dead, .dead, .dead, .dead, .dead, .dead, .dead, .dead, .dead, .dead, .dead, .dead, .dead, .dead, .dead, .dead, .dead, .dead, .dead, .dead, .dead, .dead, .dead, .dead, .dead, .dead, .dead, .dead, .dead, .dead, .dead, .dead, .dead, .dead, .dead, .dead, .dead, .dead, .dead, .dead, .dead, .dead, .dead, .dead, .dead, .dead, .dead, .dead, .dead, .dead, .dead, .dead, .dead, .dead, .dead, .dead, .dead, .dead, .dead, .dead, .dead, .dead, .dead, .dead, .dead, .dead, .dead, .dead, .dead, .dead, .dead, .dead, .dead, .dead, .dead, .dead, .dead, .dead, .dead, .dead, .dead, .dead, .dead, .dead, .dead, .dead, .dead, .dead, .dead, .dead, .dead, .dead, .dead, .dead, .dead, .dead, .dead, .dead, .dead, .dead, .dead, .dead, .dead, .dead, .dead, .dead, .dead, .dead, .dead, .dead, .dead, .dead, .dead, .dead, .dead, (.all 1000000000 1), (.imm (.int .i64 x4q7)), (.imm (.int .i64 p2)), (.imm (.int .i64 (IntKind.wrap .i64 ((IntKind.wrap .i64 ((halfI p1 p3) + p2)) - x4q7)))), (.imm (.fn false p4d p4g)), .dead, .dead, .dead, .dead, .dead, .dead, .dead, .dead, .dead, .dead, .dead, .dead, .dead, .dead, .dead, .dead, .dead, .dead, .dead, .dead, .dead, .dead, .dead, .dead, .dead, .dead, .dead, .dead, .dead, (.tup []), (.all 1000000000 1)], []⟩
noncomputable abbrev L8 (fuel n : Nat) (s : St) (k : Kont) := lAt Try.prog X I fuel false 2 false 45 (bodyOf Try.f45) [1, 0] n s k
noncomputable abbrev k8  (fuel : Nat) : Kont := (kAt Try.prog X I fuel false 2 false 45 (bodyOf Try.f45) [1, 0] [] (endFn Try.prog Try.f45 58 (kOp Try.prog X I fuel false 3 44 (cAt (bodyOf Try.f44) [1, 1, 1]) 7 (kAt Try.prog X I fuel false 3 false 44 (bodyOf Try.f44) [1, 1, 1] [] (endFn Try.prog Try.f44 220 (kOp Try.prog X I fuel false 4 42 (cAt (bodyOf Try.f42) [1, 1, 1, 1, 1, 1, 1, 1, 1, 0, 1, 0]) 5 (kAt Try.prog X I fuel false 4 false 42 (bodyOf Try.f42) [1, 1, 1, 1, 1, 1, 1, 1, 1, 0, 1, 0] [] (endK Try.prog Try.f42))))))))
noncomputable def t8 (p2 : Int) (x5q3 : Int) (p4d : List Q → Bool) (p4g : List Q → Int) (p1 : Int) (p3 : Int) (x4q7 : Int) (x8q3 : Int) (x8q4 : List Int) : St := ⟨[(.all 1000000000 1), (.imm (.int .i64 (IntKind.wrap .i64 (p2 - x5q3)))), (.imm (.int .i64 p2)), (.imm (.int .i64 x5q3)), .dead, .dead, .dead, .dead, .dead, .dead, (.imm (.int .i64 x8q3)), .dead, .dead, .dead, .dead, .dead, .dead, .dead, .dead, .dead, .dead, .dead, .dead, .dead, .dead, .dead, .dead, .dead, .dead, .dead, .dead, .dead, .dead, .dead, .dead, .dead, .dead, .dead], hOf [(1000000000, (.ints .i64 x8q4))], [(.all 1000000000 1), .dead, (.imm (.int .i64 p2)), .dead, (.imm (.fn false p4d p4g)), .dead, .dead, .dead, .dead, .dead, (.imm (.int .i64 x5q3)), .dead, .dead, .dead, .dead, .dead, .dead, .dead, .dead, .dead, .dead, .dead, .dead, .dead, .dead, .dead, .dead, .dead, .dead, .dead, .dead, .dead, .dead, .dead, .dead, .dead, .dead, .dead, .dead, .dead, .dead, .dead, .dead, .dead, .dead, .dead, .dead, .dead, .dead, .dead, (.all 1000000000 1), (.imm (.int .i64 p2)), (.imm (.int .i64 x5q3)), (.imm (.int .i64 (IntKind.wrap .i64 (p2 - x5q3)))), (.imm (.int .i64 p2)), (.imm (.int .i64 x5q3)), (.imm (.fn false p4d p4g)), .dead, (.tup []), (.all 1000000000 1), (.imm (.int .i64 p1)), (.imm (.int .i64 p2)), (.imm (.int .i64 p3)), (.imm (.fn false p4d p4g)), .dead, .dead, .dead, .dead, .dead, .dead, .dead, .dead, .dead, .dead, .dead, .dead, .dead, (.imm (.int .i64 (halfI p1 p3))), .dead, (.imm (.int .i64 x4q7)), .dead, .dead, .dead, (.imm (.int .i64 (IntKind.wrap .i64 ((IntKind.wrap .i64 ((halfI p1 p3) + p2)) - x4q7)))), .dead, .dead, .dead, .dead, .dead, .dead, .dead, .dead, .dead, .dead, .dead, .dead, .dead, .dead, .dead, .dead, .dead, .dead, .dead, .dead, .dead, .dead, .dead, .dead, .dead, .dead, .dead, .dead, .dead, .dead, .dead, .dead, .dead, .dead, .dead, .dead, .dead, .dead, .dead, .dead, .dead, .dead, .dead, .dead, .dead, .dead, .dead, .dead, .dead, .dead, .dead, .dead, .dead, .dead, .dead, .dead, .dead, .dead, .dead, .dead, .dead, .dead, .dead, .dead, .dead, .dead, .dead, .dead, .dead, .dead, .dead, .dead, .dead, .dead, .dead, .dead, .dead, .dead, .dead, .dead, .dead, .dead, .dead, .dead, .dead, .dead, .dead, .dead, .dead, .dead, .dead, .dead, .dead, .dead, .dead, .dead, .dead, .dead, .dead, .dead, .dead, .dead, .dead, .dead, .dead, .dead, .dead, .dead, .dead, .dead, .dead, .dead, .dead, .dead, .dead, .dead, .dead, .dead, .dead, .dead, .dead, .dead, .dead, .dead, .dead, .dead, .dead, .dead, .dead, .dead, .dead, .dead, .dead, .dead, .dead, .dead, .dead, .dead, .dead, .dead, .dead, .dead, .dead, .dead, .dead, .dead, .dead, .dead, .dead, .dead, .dead, .dead, .dead, .dead, .dead, .dead, .dead, .dead, .dead, .dead, .dead, (.all 1000000000 1), (.imm (.int .i64 x4q7)), (.imm (.int .i64 p2)), (.imm (.int .i64 (IntKind.wrap .i64 ((IntKind.wrap .i64 ((halfI p1 p3) + p2)) - x4q7)))), (.imm (.fn false p4d p4g)), .dead, .dead, .dead, .dead, .dead, .dead, .dead, .dead, .dead, .dead, .dead, .dead, .dead, .dead, .dead, .dead, .dead, .dead, .dead, .dead, .dead, .dead, .dead, .dead, .dead, .dead, .dead, .dead, .dead, (.tup []), (.all 1000000000 1)], []⟩
theorem e (fuel : Nat) (p0 : List Int) (p1 : Int) (p2 : Int) (p3 : Int) (p4d : List Q → Bool) (p4g : List Q → Int) : runF Try.prog X I 4 fuel 42 Try.f42 [.rows true [(.i64, p0)], .d (.int .i64 p1), .d (.int .i64 p2), .d (.int .i64 p3), .d (.fn false p4d p4g)] =
  (bif (((IntKind.wrap .i64 (p2 - p1)) : Int) == 1) then
  L0 fuel fuel (t0 p1 p4d p4g p0 p2 p3) (k0  fuel)
  else
  (bif (((IntKind.wrap .i64 (p3 - p2)) : Int) == 1) then
  L2 fuel fuel (t2 p2 p4d p4g p0 p1 p2) (k2  fuel)
  else
  (bif (decide ((p2 : Int) > (halfI p1 p3))) then
  L4 fuel fuel (t4 p1 p2 p3 p4d p4g p0 ((IntKind.wrap .i64 ((IntKind.wrap .i64 ((halfI p1 p3) + p2)) - p3))) ((halfI p1 p3))) (k4  fuel)
  else
  L4 fuel fuel (t4 p1 p2 p3 p4d p4g p0 p1 p2) (k4  fuel)))) := by kernel_rfl
theorem s0 (fuel n0 : Nat) (p1 : Int) (p4d : List Q → Bool) (p4g : List Q → Int) (p0 : List Int) (x0q3 : Int) (x0q4 : Int) : L0 fuel (n0 + 1) (t0 p1 p4d p4g p0 x0q3 x0q4) (k0  fuel) =
  (bif (decide ((x0q3 : Int) < x0q4)) then
  (idx (halfI x0q3 x0q4) p0.length).bind fun j39 =>
  (p0[j39]?).bind fun v40 =>
  (idx p1 p0.length).bind fun j41 =>
  (p0[j41]?).bind fun v42 =>
  (bif (p4d [Q.i v40, Q.i v42]) then
  (bif (decide (((p4g [Q.i v40, Q.i v42]) : Int) < 0)) then
  L0 fuel n0 (t0 p1 p4d p4g p0 ((IntKind.wrap .i64 ((halfI x0q3 x0q4) + 1))) x0q4) (k0  fuel)
  else
  L0 fuel n0 (t0 p1 p4d p4g p0 x0q3 ((halfI x0q3 x0q4))) (k0  fuel))
  else
  none)
  else
  L1 fuel fuel (t1 x0q3 p1 p0) (k1  fuel)) := by kernel_rfl
theorem s1 (fuel n1 : Nat) (x0q3 : Int) (x1q1 : Int) (x1q2 : List Int) : L1 fuel (n1 + 1) (t1 x0q3 x1q1 x1q2) (k1  fuel) =
  (bif (decide ((x1q1 : Int) < (IntKind.wrap .i64 (x0q3 - 1)))) then
  (idx (IntKind.wrap .i64 (x1q1 + 1)) x1q2.length).bind fun j49 =>
  (x1q2[j49]?).bind fun v50 =>
  (idx x1q1 x1q2.length).bind fun j51 =>
  (x1q2[j51]?).bind fun v52 =>
  (idx x1q1 x1q2.length).bind fun j53 =>
  (bif decide (j53 < x1q2.length) then
  (idx (IntKind.wrap .i64 (x1q1 + 1)) (x1q2.set j53 v50).length).bind fun j54 =>
  (bif decide (j54 < (x1q2.set j53 v50).length) then
  L1 fuel n1 (t1 x0q3 ((IntKind.wrap .i64 (x1q1 + 1))) (((x1q2.set j53 v50).set j54 v52))) (k1  fuel)
  else
  none)
  else
  none)
  else
  some ([], [[(.ints .i64 x1q2)]])) := by kernel_rfl
theorem s2 (fuel n2 : Nat) (p2 : Int) (p4d : List Q → Bool) (p4g : List Q → Int) (p0 : List Int) (x2q3 : Int) (x2q4 : Int) : L2 fuel (n2 + 1) (t2 p2 p4d p4g p0 x2q3 x2q4) (k2  fuel) =
  (bif (decide ((x2q3 : Int) < x2q4)) then
  (idx p2 p0.length).bind fun j93 =>
  (p0[j93]?).bind fun v94 =>
  (idx (halfI x2q3 x2q4) p0.length).bind fun j95 =>
  (p0[j95]?).bind fun v96 =>
  (bif (p4d [Q.i v94, Q.i v96]) then
  (bif (!(decide (((p4g [Q.i v94, Q.i v96]) : Int) < 0))) then
  L2 fuel n2 (t2 p2 p4d p4g p0 ((IntKind.wrap .i64 ((halfI x2q3 x2q4) + 1))) x2q4) (k2  fuel)
  else
  L2 fuel n2 (t2 p2 p4d p4g p0 x2q3 ((halfI x2q3 x2q4))) (k2  fuel))
  else
  none)
  else
  L3 fuel fuel (t3 x2q3 p2 p0) (k3  fuel)) := by kernel_rfl
theorem s3 (fuel n3 : Nat) (x2q3 : Int) (x3q1 : Int) (x3q2 : List Int) : L3 fuel (n3 + 1) (t3 x2q3 x3q1 x3q2) (k3  fuel) =
  (bif (decide ((x3q1 : Int) > x2q3)) then
  (idx (IntKind.wrap .i64 (x3q1 - 1)) x3q2.length).bind fun j103 =>
  (x3q2[j103]?).bind fun v104 =>
  (idx x3q1 x3q2.length).bind fun j105 =>
  (x3q2[j105]?).bind fun v106 =>
  (idx x3q1 x3q2.length).bind fun j107 =>
  (bif decide (j107 < x3q2.length) then
  (idx (IntKind.wrap .i64 (x3q1 - 1)) (x3q2.set j107 v104).length).bind fun j108 =>
  (bif decide (j108 < (x3q2.set j107 v104).length) then
  L3 fuel n3 (t3 x2q3 ((IntKind.wrap .i64 (x3q1 - 1))) (((x3q2.set j107 v104).set j108 v106))) (k3  fuel)
  else
  none)
  else
  none)
  else
  some ([], [[(.ints .i64 x3q2)]])) := by kernel_rfl
theorem s4 (fuel n4 : Nat) (p1 : Int) (p2 : Int) (p3 : Int) (p4d : List Q → Bool) (p4g : List Q → Int) (p0 : List Int) (x4q7 : Int) (x4q8 : Int) : L4 fuel (n4 + 1) (t4 p1 p2 p3 p4d p4g p0 x4q7 x4q8) (k4  fuel) =
  (bif (decide ((x4q7 : Int) < x4q8)) then
  (idx (IntKind.wrap .i64 ((IntKind.wrap .i64 ((IntKind.wrap .i64 ((halfI p1 p3) + p2)) - 1)) - (halfI x4q7 x4q8))) p0.length).bind fun j315 =>
  (p0[j315]?).bind fun v316 =>
  (idx (halfI x4q7 x4q8) p0.length).bind fun j317 =>
  (p0[j317]?).bind fun v318 =>
  (bif (p4d [Q.i v316, Q.i v318]) then
  (bif (!(decide (((p4g [Q.i v316, Q.i v318]) : Int) < 0))) then
  L4 fuel n4 (t4 p1 p2 p3 p4d p4g p0 ((IntKind.wrap .i64 ((halfI x4q7 x4q8) + 1))) x4q8) (k4  fuel)
  else
  L4 fuel n4 (t4 p1 p2 p3 p4d p4g p0 x4q7 ((halfI x4q7 x4q8))) (k4  fuel))
  else
  none)
  else
  (bif (decide ((x4q7 : Int) < p2)) then
  (bif (decide ((p2 : Int) < (IntKind.wrap .i64 ((IntKind.wrap .i64 ((halfI p1 p3) + p2)) - x4q7)))) then
  L5 fuel fuel (t5 p2 p4d p4g p1 p3 x4q7 ((IntKind.wrap .i64 (p2 - x4q7))) ((IntKind.wrap .i64 ((IntKind.wrap .i64 ((IntKind.wrap .i64 ((halfI p1 p3) + p2)) - x4q7)) - p2))) p0) (k5  fuel)
  else
  (tailM ((32 : Nat) : Int) p4d p4g p1 x4q7 (halfI p1 p3) (IntKind.wrap .i64 ((IntKind.wrap .i64 ((halfI p1 p3) + p2)) - x4q7)) p3 p0))
  else
  (tailM ((32 : Nat) : Int) p4d p4g p1 x4q7 (halfI p1 p3) (IntKind.wrap .i64 ((IntKind.wrap .i64 ((halfI p1 p3) + p2)) - x4q7)) p3 p0))) := by kernel_rfl
theorem s5 (fuel n5 : Nat) (p2 : Int) (p4d : List Q → Bool) (p4g : List Q → Int) (p1 : Int) (p3 : Int) (x4q7 : Int) (x5q3 : Int) (x5q4 : Int) (x5q5 : List Int) : L5 fuel (n5 + 1) (t5 p2 p4d p4g p1 p3 x4q7 x5q3 x5q4 x5q5) (k5  fuel) =
  (bif ((x5q3 : Int) != x5q4) then
  (bif (decide ((x5q3 : Int) > x5q4)) then
  L6 fuel fuel (t6 p2 x5q3 x5q4 p4d p4g p1 p3 x4q7 0 x5q5) (k6 n5 fuel)
  else
  L7 fuel fuel (t7 p2 x5q3 x5q4 p4d p4g p1 p3 x4q7 0 x5q5) (k7 n5 fuel))
  else
  L8 fuel fuel (t8 p2 x5q3 p4d p4g p1 p3 x4q7 0 x5q5) (k8  fuel)) := by kernel_rfl
theorem s6 (fuel n5 n6 : Nat) (p2 : Int) (x5q3 : Int) (x5q4 : Int) (p4d : List Q → Bool) (p4g : List Q → Int) (p1 : Int) (p3 : Int) (x4q7 : Int) (x6q3 : Int) (x6q4 : List Int) : L6 fuel (n6 + 1) (t6 p2 x5q3 x5q4 p4d p4g p1 p3 x4q7 x6q3 x6q4) (k6 n5 fuel) =
  (bif (decide ((x6q3 : Int) < x5q4)) then
  (idx (IntKind.wrap .i64 (p2 + x6q3)) x6q4.length).bind fun j361 =>
  (x6q4[j361]?).bind fun v362 =>
  (idx (IntKind.wrap .i64 ((IntKind.wrap .i64 (p2 - x5q3)) + x6q3)) x6q4.length).bind fun j363 =>
  (x6q4[j363]?).bind fun v364 =>
  (idx (IntKind.wrap .i64 ((IntKind.wrap .i64 (p2 - x5q3)) + x6q3)) x6q4.length).bind fun j365 =>
  (bif decide (j365 < x6q4.length) then
  (idx (IntKind.wrap .i64 (p2 + x6q3)) (x6q4.set j365 v362).length).bind fun j366 =>
  (bif decide (j366 < (x6q4.set j365 v362).length) then
  L6 fuel n6 (t6 p2 x5q3 x5q4 p4d p4g p1 p3 x4q7 ((IntKind.wrap .i64 (x6q3 + 1))) (((x6q4.set j365 v362).set j366 v364))) (k6 n5 fuel)
  else
  none)
  else
  none)
  else
  L5 fuel n5 (t5 p2 p4d p4g p1 p3 x4q7 ((IntKind.wrap .i64 (x5q3 - x5q4))) x5q4 x6q4) (k5  fuel)) := by kernel_rfl
theorem s7 (fuel n5 n7 : Nat) (p2 : Int) (x5q3 : Int) (x5q4 : Int) (p4d : List Q → Bool) (p4g : List Q → Int) (p1 : Int) (p3 : Int) (x4q7 : Int) (x7q3 : Int) (x7q4 : List Int) : L7 fuel (n7 + 1) (t7 p2 x5q3 x5q4 p4d p4g p1 p3 x4q7 x7q3 x7q4) (k7 n5 fuel) =
  (bif (decide ((x7q3 : Int) < x5q3)) then
  (idx (IntKind.wrap .i64 ((IntKind.wrap .i64 ((IntKind.wrap .i64 (p2 + x5q4)) - x5q3)) + x7q3)) x7q4.length).bind fun j373 =>
  (x7q4[j373]?).bind fun v374 =>
  (idx (IntKind.wrap .i64 ((IntKind.wrap .i64 (p2 - x5q3)) + x7q3)) x7q4.length).bind fun j375 =>
  (x7q4[j375]?).bind fun v376 =>
  (idx (IntKind.wrap .i64 ((IntKind.wrap .i64 (p2 - x5q3)) + x7q3)) x7q4.length).bind fun j377 =>
  (bif decide (j377 < x7q4.length) then
  (idx (IntKind.wrap .i64 ((IntKind.wrap .i64 ((IntKind.wrap .i64 (p2 + x5q4)) - x5q3)) + x7q3)) (x7q4.set j377 v374).length).bind fun j378 =>
  (bif decide (j378 < (x7q4.set j377 v374).length) then
  L7 fuel n7 (t7 p2 x5q3 x5q4 p4d p4g p1 p3 x4q7 ((IntKind.wrap .i64 (x7q3 + 1))) (((x7q4.set j377 v374).set j378 v376))) (k7 n5 fuel)
  else
  none)
  else
  none)
  else
  L5 fuel n5 (t5 p2 p4d p4g p1 p3 x4q7 x5q3 ((IntKind.wrap .i64 (x5q4 - x5q3))) x7q4) (k5  fuel)) := by kernel_rfl
theorem s8 (fuel n8 : Nat) (p2 : Int) (x5q3 : Int) (p4d : List Q → Bool) (p4g : List Q → Int) (p1 : Int) (p3 : Int) (x4q7 : Int) (x8q3 : Int) (x8q4 : List Int) : L8 fuel (n8 + 1) (t8 p2 x5q3 p4d p4g p1 p3 x4q7 x8q3 x8q4) (k8  fuel) =
  (bif (decide ((x8q3 : Int) < x5q3)) then
  (idx (IntKind.wrap .i64 (p2 + x8q3)) x8q4.length).bind fun j385 =>
  (x8q4[j385]?).bind fun v386 =>
  (idx (IntKind.wrap .i64 ((IntKind.wrap .i64 (p2 - x5q3)) + x8q3)) x8q4.length).bind fun j387 =>
  (x8q4[j387]?).bind fun v388 =>
  (idx (IntKind.wrap .i64 ((IntKind.wrap .i64 (p2 - x5q3)) + x8q3)) x8q4.length).bind fun j389 =>
  (bif decide (j389 < x8q4.length) then
  (idx (IntKind.wrap .i64 (p2 + x8q3)) (x8q4.set j389 v386).length).bind fun j390 =>
  (bif decide (j390 < (x8q4.set j389 v386).length) then
  L8 fuel n8 (t8 p2 x5q3 p4d p4g p1 p3 x4q7 ((IntKind.wrap .i64 (x8q3 + 1))) (((x8q4.set j389 v386).set j390 v388))) (k8  fuel)
  else
  none)
  else
  none)
  else
  (tailM ((32 : Nat) : Int) p4d p4g p1 x4q7 (halfI p1 p3) (IntKind.wrap .i64 ((IntKind.wrap .i64 ((halfI p1 p3) + p2)) - x4q7)) p3 x8q4)) := by kernel_rfl
end smv6
theorem smv6.ok_of (hX : ∀ E ∈ smv6.X, CallSpec Try.prog E) (h : ∀ (xs : List Int) (a : Int) (m : Int) (b : Int) (dom : List Q → Bool) (G : List Q → Int), (decide ((xs : List Int).length ≤ 60) && domA dom xs && mgW G xs a m b && decide (0 ≤ a) && decide (a < m) && decide (m < b) && decide (b - a ≤ 64)) = true → ∃ fuel, runF Try.prog smv6.X smv6.I 4 fuel 42 Try.f42 [.rows true [(.i64, xs)], .d (.int .i64 a), .d (.int .i64 m), .d (.int .i64 b), .d (.fn false dom G)] = some ([], [[(.ints .i64 (segS (ltG G) a.toNat b.toNat xs))]])) : CallSpec Try.prog smv6.E :=
  callSpec_of (d := 4) hX (by kernel_rfl) smv6.I_ok (by kernel_rfl) (by kernel_rfl) (by kernel_rfl) (fun _ _ _ _ h => by dsimp only [smv6.E] at h; cases h) (fun xs hp => by
    dsimp only [smv6.E] at hp ⊢
    split at hp
    · exact h _ _ _ _ _ _ hp
    · cases hp)
theorem smv6.shift {F : Nat} {xs : List Int} {a i : Nat} (hl : xs.length ≤ 60) (hi : a + 1 ≤ i) (hib : i ≤ xs.length) (hF : 200 < F) :
    smv6.L1 F F (smv6.t1 (i : Int) (a : Int) xs) (smv6.k1 F) = some ([], [[(.ints .i64 (shU a (i - 1 - a) xs))]]) := by
  refine run_loop (N := i - 1 - a) (fun n c ys => smv6.L1 F n (smv6.t1 (i : Int) ((a + c : Nat) : Int) ys) (smv6.k1 F)) (fun c ys => ys = shU a c xs) ?_ ?_ F 0 xs (by omega) (by omega) rfl
  · rintro n ys rfl
    rw [smv6.s1, wS (by omega) (by omega), decide_eq_false (by omega)]
    rfl
  · rintro n c ys hc rfl
    have hyl := shU_len a c xs
    refine ⟨_, rfl, ?_⟩
    rw [smv6.s1, wS (x := (i : Int) - 1) (by omega) (by omega), decide_eq_true (by omega), cond_true, w1 (by omega), idx_nat (j := a + c + 1) (by omega), idx_nat (j := a + c) (by omega)]
    simp only [Option.bind_some, getD_get (show a + c + 1 < (shU a c xs).length by omega), getD_get (show a + c < (shU a c xs).length by omega)]
    rw [decide_eq_true (show a + c < (shU a c xs).length by omega), cond_true, List.length_set, idx_nat (j := a + c + 1) (by omega)]
    simp only [Option.bind_some, List.length_set]
    rw [decide_eq_true (show a + c + 1 < (shU a c xs).length by omega), cond_true]
    rfl
theorem smv6.left {F : Nat} {xs : List Int} {a b : Nat} {dom : List Q → Bool} {G : List Q → Int} {da : List Int} (hd : domA dom xs = true) (hlt : ltG G = ltD da) (hl : xs.length ≤ 60) (h : MG da a (a + 1) b xs) (hF : 200 < F) : ∀ (d n i j : Nat), j - i ≤ d → a + 1 ≤ i → i ≤ j → j ≤ b → (i = a + 1 ∨ ltD da (xs.getD (i - 1) 0) (xs.getD a 0) = true) → (j = b ∨ ltD da (xs.getD j 0) (xs.getD a 0) = false) → d < n →
    smv6.L0 F n (smv6.t0 (a : Int) dom G xs (i : Int) (j : Int)) (smv6.k0 F) = some ([], [[(.ints .i64 (segS (ltD da) a b xs))]]) := by
  have hb := h.bl
  have hfin : ∀ n i : Nat, a + 1 ≤ i → i ≤ b → (i = a + 1 ∨ ltD da (xs.getD (i - 1) 0) (xs.getD a 0) = true) → (i = b ∨ ltD da (xs.getD i 0) (xs.getD a 0) = false) → smv6.L0 F (n + 1) (smv6.t0 (a : Int) dom G xs (i : Int) (i : Int)) (smv6.k0 F) = some ([], [[(.ints .i64 (segS (ltD da) a b xs))]]) := by
    intro n i h1 h2 h3 h4
    rw [smv6.s0, decide_eq_false (by omega), cond_false, smv6.shift hl h1 (by omega) hF, mg_left' h h1 h2 h3 h4]
  intro d
  induction d with
  | zero =>
    intro n i j h1 h2 h3 h4 h5 h6 h7
    obtain ⟨n, rfl⟩ : ∃ k, n = k + 1 := ⟨n - 1, by omega⟩
    obtain rfl : i = j := by omega
    exact hfin n i h2 h4 h5 h6
  | succ d ih =>
    intro n i j h1 h2 h3 h4 h5 h6 h7
    obtain ⟨n, rfl⟩ : ∃ k, n = k + 1 := ⟨n - 1, by omega⟩
    by_cases hj : i < j
    · have hh : (i + j) / 2 < xs.length := by omega
      have ha : a < xs.length := by omega
      have hdm := domA_get hd (mem_getD hh) (mem_getD ha)
      have hlx := ltG_at hlt (xs.getD ((i + j) / 2) 0) (xs.getD a 0)
      rw [smv6.s0, decide_eq_true (by omega), cond_true, halfV (by omega), idx_nat hh, idx_nat ha]
      simp only [Option.bind_some, getD_get hh, getD_get ha, hdm, hlx, cond_true]
      cases hc : ltD da (xs.getD ((i + j) / 2) 0) (xs.getD a 0) with
      | true =>
        rw [cond_true, w1 (by omega)]
        exact ih n ((i + j) / 2 + 1) j (by omega) (by omega) (by omega) h4 (.inr (by rw [Nat.add_sub_cancel]; exact hc)) h6 (by omega)
      | false =>
        rw [cond_false]
        exact ih n i ((i + j) / 2) (by omega) h2 (by omega) (by omega) h5 (.inr hc) (by omega)
    · obtain rfl : i = j := by omega
      exact hfin n i h2 h4 h5 h6
theorem smv6.down {F : Nat} {xs : List Int} {m i : Nat} (hl : xs.length ≤ 60) (hi : i ≤ m) (hm : m < xs.length) (hF : 200 < F) :
    smv6.L3 F F (smv6.t3 (i : Int) (m : Int) xs) (smv6.k3 F) = some ([], [[(.ints .i64 (shD m (m - i) xs))]]) := by
  refine run_loop (N := m - i) (fun n c ys => smv6.L3 F n (smv6.t3 (i : Int) ((m - c : Nat) : Int) ys) (smv6.k3 F)) (fun c ys => ys = shD m c xs) ?_ ?_ F 0 xs (by omega) (by omega) rfl
  · rintro n ys rfl
    rw [smv6.s3, decide_eq_false (by omega)]
    rfl
  · rintro n c ys hc rfl
    have hyl := shD_len m c xs
    refine ⟨_, rfl, ?_⟩
    have e1 : IntKind.wrap .i64 (((m - c : Nat) : Int) - 1) = ((m - c - 1 : Nat) : Int) := by rw [wS (by omega) (by omega)]; omega
    rw [smv6.s3, decide_eq_true (by omega), cond_true, e1, idx_nat (j := m - c - 1) (by omega), idx_nat (j := m - c) (by omega)]
    simp only [Option.bind_some, getD_get (show m - c - 1 < (shD m c xs).length by omega), getD_get (show m - c < (shD m c xs).length by omega)]
    rw [decide_eq_true (show m - c < (shD m c xs).length by omega), cond_true, List.length_set, idx_nat (j := m - c - 1) (by omega)]
    simp only [Option.bind_some, List.length_set]
    rw [decide_eq_true (show m - c - 1 < (shD m c xs).length by omega), cond_true, show m - (c + 1) = m - c - 1 by omega]
    rfl
theorem smv6.right {F : Nat} {xs : List Int} {a m : Nat} {dom : List Q → Bool} {G : List Q → Int} {da : List Int} (hd : domA dom xs = true) (hlt : ltG G = ltD da) (hl : xs.length ≤ 60) (h : MG da a m (m + 1) xs) (hF : 200 < F) : ∀ (d n i j : Nat), j - i ≤ d → a ≤ i → i ≤ j → j ≤ m → (i = a ∨ ltD da (xs.getD m 0) (xs.getD (i - 1) 0) = false) → (j = m ∨ ltD da (xs.getD m 0) (xs.getD j 0) = true) → d < n →
    smv6.L2 F n (smv6.t2 (m : Int) dom G xs (i : Int) (j : Int)) (smv6.k2 F) = some ([], [[(.ints .i64 (segS (ltD da) a (m + 1) xs))]]) := by
  have hb := h.bl
  have hfin : ∀ n i : Nat, a ≤ i → i ≤ m → (i = a ∨ ltD da (xs.getD m 0) (xs.getD (i - 1) 0) = false) → (i = m ∨ ltD da (xs.getD m 0) (xs.getD i 0) = true) → smv6.L2 F (n + 1) (smv6.t2 (m : Int) dom G xs (i : Int) (i : Int)) (smv6.k2 F) = some ([], [[(.ints .i64 (segS (ltD da) a (m + 1) xs))]]) := by
    intro n i h1 h2 h3 h4
    rw [smv6.s2, decide_eq_false (by omega), cond_false, smv6.down hl h2 (by omega) hF, mg_right' h h1 h2 h3 h4]
  intro d
  induction d with
  | zero =>
    intro n i j h1 h2 h3 h4 h5 h6 h7
    obtain ⟨n, rfl⟩ : ∃ k, n = k + 1 := ⟨n - 1, by omega⟩
    obtain rfl : i = j := by omega
    exact hfin n i h2 h4 h5 h6
  | succ d ih =>
    intro n i j h1 h2 h3 h4 h5 h6 h7
    obtain ⟨n, rfl⟩ : ∃ k, n = k + 1 := ⟨n - 1, by omega⟩
    by_cases hj : i < j
    · have hh : (i + j) / 2 < xs.length := by omega
      have hm : m < xs.length := by omega
      have hdm := domA_get hd (mem_getD hm) (mem_getD hh)
      have hlx := ltG_at hlt (xs.getD m 0) (xs.getD ((i + j) / 2) 0)
      rw [smv6.s2, decide_eq_true (by omega), cond_true, halfV (by omega), idx_nat hh, idx_nat hm]
      simp only [Option.bind_some, getD_get hh, getD_get hm, hdm, hlx, cond_true]
      cases hc : ltD da (xs.getD m 0) (xs.getD ((i + j) / 2) 0) with
      | false =>
        rw [Bool.not_false, cond_true, w1 (by omega)]
        exact ih n ((i + j) / 2 + 1) j (by omega) (by omega) (by omega) h4 (.inr (by rw [Nat.add_sub_cancel]; exact hc)) h6 (by omega)
      | true =>
        rw [Bool.not_true, cond_false]
        exact ih n i ((i + j) / 2) (by omega) h2 (by omega) (by omega) h5 (.inr hc) (by omega)
    · obtain rfl : i = j := by omega
      exact hfin n i h2 h4 h5 h6
theorem smv6.swap6 {F n5 : Nat} {a s b m i j : Nat} {dom : List Q → Bool} {G : List Q → Int} {ys : List Int} (hl : ys.length ≤ 60) (hi : i ≤ m) (hij : j < i) (hm : m + j ≤ ys.length) (hF : 200 < F) :
    smv6.L6 F F (smv6.t6 (m : Int) (i : Int) (j : Int) dom G (a : Int) (b : Int) (s : Int) 0 ys) (smv6.k6 n5 F) = smv6.L5 F n5 (smv6.t5 (m : Int) dom G (a : Int) (b : Int) (s : Int) ((i - j : Nat) : Int) (j : Int) (swR (m - i) m j ys)) (smv6.k5 F) := by
  refine run_loop (N := j) (fun n c zs => smv6.L6 F n (smv6.t6 (m : Int) (i : Int) (j : Int) dom G (a : Int) (b : Int) (s : Int) (c : Int) zs) (smv6.k6 n5 F)) (fun c zs => zs = swR (m - i) m c ys) ?_ ?_ F 0 ys (by omega) (by omega) rfl
  · rintro n zs rfl
    rw [smv6.s6, decide_eq_false (by omega), cond_false, wSub (by omega) (by omega)]
  · rintro n c zs hc rfl
    have hyl := swR_len (m - i) m c ys
    refine ⟨_, rfl, ?_⟩
    rw [smv6.s6, decide_eq_true (by omega), cond_true, wAdd (a := m) (by omega), wSub hi (by omega), wAdd (a := m - i) (by omega), w1 (by omega), idx_nat (j := m + c) (by omega), idx_nat (j := m - i + c) (by omega)]
    simp only [Option.bind_some, getD_get (show m + c < (swR (m - i) m c ys).length by omega), getD_get (show m - i + c < (swR (m - i) m c ys).length by omega)]
    rw [decide_eq_true (show m - i + c < (swR (m - i) m c ys).length by omega), cond_true, List.length_set, idx_nat (j := m + c) (by omega)]
    simp only [Option.bind_some, List.length_set]
    rw [decide_eq_true (show m + c < (swR (m - i) m c ys).length by omega), cond_true]
    rfl
theorem smv6.swap7 {F n5 : Nat} {a s b m i j : Nat} {dom : List Q → Bool} {G : List Q → Int} {ys : List Int} (hl : ys.length ≤ 60) (hi : i ≤ m) (hij : i < j) (hm : m + j ≤ ys.length) (hF : 200 < F) :
    smv6.L7 F F (smv6.t7 (m : Int) (i : Int) (j : Int) dom G (a : Int) (b : Int) (s : Int) 0 ys) (smv6.k7 n5 F) = smv6.L5 F n5 (smv6.t5 (m : Int) dom G (a : Int) (b : Int) (s : Int) (i : Int) ((j - i : Nat) : Int) (swR (m - i) (m + j - i) i ys)) (smv6.k5 F) := by
  refine run_loop (N := i) (fun n c zs => smv6.L7 F n (smv6.t7 (m : Int) (i : Int) (j : Int) dom G (a : Int) (b : Int) (s : Int) (c : Int) zs) (smv6.k7 n5 F)) (fun c zs => zs = swR (m - i) (m + j - i) c ys) ?_ ?_ F 0 ys (by omega) (by omega) rfl
  · rintro n zs rfl
    rw [smv6.s7, decide_eq_false (by omega), cond_false, wSub (by omega) (by omega)]
  · rintro n c zs hc rfl
    have hyl := swR_len (m - i) (m + j - i) c ys
    refine ⟨_, rfl, ?_⟩
    rw [smv6.s7, decide_eq_true (by omega), cond_true, wAdd (a := m) (b := j) (by omega), wSub (a := m + j) (by omega) (by omega), wAdd (a := m + j - i) (by omega), wSub hi (by omega), wAdd (a := m - i) (by omega), w1 (by omega), idx_nat (j := m + j - i + c) (by omega), idx_nat (j := m - i + c) (by omega)]
    simp only [Option.bind_some, getD_get (show m + j - i + c < (swR (m - i) (m + j - i) c ys).length by omega), getD_get (show m - i + c < (swR (m - i) (m + j - i) c ys).length by omega)]
    rw [decide_eq_true (show m - i + c < (swR (m - i) (m + j - i) c ys).length by omega), cond_true, List.length_set, idx_nat (j := m + j - i + c) (by omega)]
    simp only [Option.bind_some, List.length_set]
    rw [decide_eq_true (show m + j - i + c < (swR (m - i) (m + j - i) c ys).length by omega), cond_true]
    rfl
theorem smv6.swap8 {F : Nat} {a s b m i : Nat} {dom : List Q → Bool} {G : List Q → Int} {ys : List Int} (hl : ys.length ≤ 60) (hi : i ≤ m) (hm : m + i ≤ ys.length) (hF : 200 < F) (ham : a ≤ m) (hb : b ≤ 60) (hs : s ≤ m) :
    smv6.L8 F F (smv6.t8 (m : Int) (i : Int) dom G (a : Int) (b : Int) (s : Int) 0 ys) (smv6.k8 F) = tailM ((32 : Nat) : Int) dom G (a : Int) (s : Int) (((a + b) / 2 : Nat) : Int) (((a + b) / 2 + m - s : Nat) : Int) (b : Int) (swR (m - i) m i ys) := by
  refine run_loop (N := i) (fun n c zs => smv6.L8 F n (smv6.t8 (m : Int) (i : Int) dom G (a : Int) (b : Int) (s : Int) (c : Int) zs) (smv6.k8 F)) (fun c zs => zs = swR (m - i) m c ys) ?_ ?_ F 0 ys (by omega) (by omega) rfl
  · rintro n zs rfl
    rw [smv6.s8, decide_eq_false (by omega), cond_false, halfV (by omega), wAdd (a := (a + b) / 2) (by omega), wSub (a := (a + b) / 2 + m) (by omega) (by omega)]
  · rintro n c zs hc rfl
    have hyl := swR_len (m - i) m c ys
    refine ⟨_, rfl, ?_⟩
    rw [smv6.s8, decide_eq_true (by omega), cond_true, wAdd (a := m) (b := c) (by omega), wSub hi (by omega), wAdd (a := m - i) (by omega), w1 (by omega), idx_nat (j := m + c) (by omega), idx_nat (j := m - i + c) (by omega)]
    simp only [Option.bind_some, getD_get (show m + c < (swR (m - i) m c ys).length by omega), getD_get (show m - i + c < (swR (m - i) m c ys).length by omega)]
    rw [decide_eq_true (show m - i + c < (swR (m - i) m c ys).length by omega), cond_true, List.length_set, idx_nat (j := m + c) (by omega)]
    simp only [Option.bind_some, List.length_set]
    rw [decide_eq_true (show m + c < (swR (m - i) m c ys).length by omega), cond_true]
    rfl
theorem smv6.rot {F : Nat} {a s b m : Nat} {dom : List Q → Bool} {G : List Q → Int} (hF : 200 < F) (ham : a ≤ m) (hb : b ≤ 60) (hs : s ≤ m) : ∀ (d n i j : Nat) (ys : List Int), i + j ≤ d → 0 < i → 0 < j → i ≤ m → m + j ≤ ys.length → ys.length ≤ 60 → d < n →
    smv6.L5 F n (smv6.t5 (m : Int) dom G (a : Int) (b : Int) (s : Int) (i : Int) (j : Int) ys) (smv6.k5 F) = tailM ((32 : Nat) : Int) dom G (a : Int) (s : Int) (((a + b) / 2 : Nat) : Int) (((a + b) / 2 + m - s : Nat) : Int) (b : Int) (rotM (m - i) m (m + j) ys) := by
  intro d
  induction d with
  | zero => intro n i j ys h1 h2; omega
  | succ d ih =>
    intro n i j ys h1 h2 h3 h4 h5 h6 h7
    obtain ⟨n, rfl⟩ : ∃ k, n = k + 1 := ⟨n - 1, by omega⟩
    rw [smv6.s5]
    by_cases e1 : i = j
    · subst e1
      rw [show ((i : Int) != (i : Int)) = false by simp, cond_false, smv6.swap8 h6 h4 h5 hF ham hb hs, rotM_eq h4 h5]
    · rw [show ((i : Int) != (j : Int)) = true by rw [bne_iff_ne]; omega, cond_true]
      by_cases e2 : i > j
      · rw [decide_eq_true (by omega), cond_true, smv6.swap6 h6 h4 e2 h5 hF, rotM_gt h4 e2 h5]
        exact ih n (i - j) j _ (by omega) (by omega) h3 (by omega) (by rw [swR_len]; omega) (by rw [swR_len]; omega) (by omega)
      · rw [decide_eq_false (by omega), cond_false, smv6.swap7 h6 h4 (by omega) h5 hF, rotM_lt h4 (by omega) h5]
        exact ih n i (j - i) _ (by omega) h2 (by omega) h4 (by rw [swR_len]; omega) (by rw [swR_len]; omega) (by omega)
theorem smv6.seek {F : Nat} {xs : List Int} {a m b r0 s0 : Nat} {dom : List Q → Bool} {G : List Q → Int} {da : List Int} (hd : domA dom xs = true) (hlt : ltG G = ltD da) (hl : xs.length ≤ 60) (h : MG da a m b xs) (ham : a + 1 < m) (hmb : m + 1 < b) (hsz : b ≤ a + 64) (hF : 200 < F)
    (hr : (m > (a + b) / 2 ∧ r0 = (a + b) / 2 ∧ s0 + b = (a + b) / 2 + m) ∨ (m ≤ (a + b) / 2 ∧ r0 = m ∧ s0 = a)) : ∀ (d n s r : Nat), r - s ≤ d → s0 ≤ s → s ≤ r → r ≤ r0 → (s = s0 ∨ ltD da (xs.getD ((a + b) / 2 + m - s) 0) (xs.getD (s - 1) 0) = false) → (r = r0 ∨ ltD da (xs.getD ((a + b) / 2 + m - 1 - r) 0) (xs.getD r 0) = true) → d < n →
    smv6.L4 F n (smv6.t4 (a : Int) (m : Int) (b : Int) dom G xs (s : Int) (r : Int)) (smv6.k4 F) = some ([], [[(.ints .i64 (segS (ltD da) a b xs))]]) := by
  have hb := h.bl
  have hfin : ∀ n s : Nat, s0 ≤ s → s ≤ r0 → (s = s0 ∨ ltD da (xs.getD ((a + b) / 2 + m - s) 0) (xs.getD (s - 1) 0) = false) → (s = r0 ∨ ltD da (xs.getD ((a + b) / 2 + m - 1 - s) 0) (xs.getD s 0) = true) → smv6.L4 F (n + 1) (smv6.t4 (a : Int) (m : Int) (b : Int) dom G xs (s : Int) (s : Int)) (smv6.k4 F) = some ([], [[(.ints .i64 (segS (ltD da) a b xs))]]) := by
    intro n s g1 g2 g3 g4
    have c1 : s = a ∨ (a + b) / 2 + m - s = b ∨ lexD da (xs.getD (s - 1) 0) (xs.getD ((a + b) / 2 + m - s) 0) := by
      rcases g3 with g3 | g3
      · omega
      · by_cases e : s = a
        · exact .inl e
        by_cases e' : (a + b) / 2 + m - s = b
        · exact .inr (.inl e')
        exact .inr (.inr (lt_lex' g3 (h.lr _ _ (by omega) (by omega) (by omega) (by omega))))
    have c2 : s = m ∨ (a + b) / 2 + m - s = m ∨ lexD da (xs.getD ((a + b) / 2 + m - s - 1) 0) (xs.getD s 0) := by
      rcases g4 with g4 | g4
      · omega
      · refine .inr (.inr ?_)
        rw [show (a + b) / 2 + m - s - 1 = (a + b) / 2 + m - 1 - s by omega]
        exact lt_lex g4
    obtain ⟨j1, j2, j3⟩ := mg_join (q := (a + b) / 2) (e := (a + b) / 2 + m - s) h (by omega) (by omega) (by omega) (by omega) (by omega) (by omega) (by omega) c1 c2
    have hrl := rotM_len (s := s) (m := m) (e := (a + b) / 2 + m - s) (xs := xs) (by omega) (by omega) (by omega)
    have htail := tail_ok (z := 32) hlt (perm_dom hd (rotM_perm (s := s) (m := m) (e := (a + b) / 2 + m - s) (by omega) (by omega))) (by omega) j1 j2 (by omega) (by omega)
    rw [j3] at htail
    rw [smv6.s4, decide_eq_false (by omega), cond_false, halfV (by omega), wAdd (a := (a + b) / 2) (by omega), wSub (a := (a + b) / 2 + m) (by omega) (by omega)]
    by_cases d1 : s < m
    · rw [decide_eq_true (p := (s : Int) < (m : Int)) (by omega), cond_true]
      by_cases d2 : m < (a + b) / 2 + m - s
      · rw [decide_eq_true (p := (m : Int) < (((a + b) / 2 + m - s : Nat) : Int)) (by omega), cond_true, wSub (a := m) (by omega) (by omega), wSub (a := (a + b) / 2 + m - s) (by omega) (by omega)]
        have := smv6.rot (F := F) (a := a) (s := s) (b := b) (m := m) (dom := dom) (G := G) hF (by omega) (by omega) (by omega) 100 F (m - s) ((a + b) / 2 + m - s - m) xs (by omega) (by omega) (by omega) (by omega) (by omega) hl (by omega)
        rw [show m - (m - s) = s by omega, show m + ((a + b) / 2 + m - s - m) = (a + b) / 2 + m - s by omega] at this
        rw [this]
        exact htail
      · rw [rotM_self (by omega) (by omega) (by omega) (.inr (by omega))] at htail
        rw [decide_eq_false (p := (m : Int) < (((a + b) / 2 + m - s : Nat) : Int)) (by omega), cond_false]
        exact htail
    · rw [rotM_self (by omega) (by omega) (by omega) (.inl (by omega))] at htail
      rw [decide_eq_false (p := (s : Int) < (m : Int)) (by omega), cond_false]
      exact htail
  intro d
  induction d with
  | zero =>
    intro n s r h1 h2 h3 h4 h5 h6 h7
    obtain ⟨n, rfl⟩ : ∃ k, n = k + 1 := ⟨n - 1, by omega⟩
    obtain rfl : s = r := by omega
    exact hfin n s h2 h4 h5 h6
  | succ d ih =>
    intro n s r h1 h2 h3 h4 h5 h6 h7
    obtain ⟨n, rfl⟩ : ∃ k, n = k + 1 := ⟨n - 1, by omega⟩
    by_cases hj : s < r
    · have hh : (s + r) / 2 < xs.length := by omega
      have hp : (a + b) / 2 + m - 1 - (s + r) / 2 < xs.length := by omega
      have hdm := domA_get hd (mem_getD hp) (mem_getD hh)
      have hlx := ltG_at hlt (xs.getD ((a + b) / 2 + m - 1 - (s + r) / 2) 0) (xs.getD ((s + r) / 2) 0)
      rw [smv6.s4, decide_eq_true (by omega), cond_true, halfV (by omega), halfV (by omega), wAdd (by omega), wS (x := (((a + b) / 2 + m : Nat) : Int) - 1) (by omega) (by omega), wS (x := (((a + b) / 2 + m : Nat) : Int) - 1 - (((s + r) / 2 : Nat) : Int)) (by omega) (by omega), show (((a + b) / 2 + m : Nat) : Int) - 1 - (((s + r) / 2 : Nat) : Int) = (((a + b) / 2 + m - 1 - (s + r) / 2 : Nat) : Int) by omega, idx_nat hh, idx_nat hp]
      simp only [Option.bind_some, getD_get hh, getD_get hp, hdm, hlx, cond_true]
      cases hc : ltD da (xs.getD ((a + b) / 2 + m - 1 - (s + r) / 2) 0) (xs.getD ((s + r) / 2) 0) with
      | false =>
        rw [Bool.not_false, cond_true, w1 (by omega)]
        exact ih n ((s + r) / 2 + 1) r (by omega) (by omega) (by omega) h4 (.inr (by rw [Nat.add_sub_cancel, show (a + b) / 2 + m - ((s + r) / 2 + 1) = (a + b) / 2 + m - 1 - (s + r) / 2 by omega]; exact hc)) h6 (by omega)
      | true =>
        rw [Bool.not_true, cond_false]
        exact ih n s ((s + r) / 2) (by omega) h2 (by omega) (by omega) h5 (.inr hc) (by omega)
    · obtain rfl : s = r := by omega
      exact hfin n s h2 h4 h5 h6
theorem smv6.ok : CallSpec Try.prog smv6.E := smv6.ok_of (by simp [smv6.X, smv5.ok]) fun xs a m b dom G h => by
  obtain ⟨F, hF⟩ : ∃ F : Nat, 200 < F := ⟨201, by omega⟩
  refine ⟨F, ?_⟩
  simp only [Bool.and_eq_true, decide_eq_true_eq] at h
  obtain ⟨⟨⟨⟨⟨⟨hl, hd⟩, hu⟩, h0⟩, h1⟩, h2⟩, h4⟩ := h
  obtain ⟨a, rfl⟩ : ∃ n : Nat, a = n := ⟨a.toNat, by omega⟩
  obtain ⟨m, rfl⟩ : ∃ n : Nat, m = n := ⟨m.toNat, by omega⟩
  obtain ⟨b, rfl⟩ : ∃ n : Nat, b = n := ⟨b.toNat, by omega⟩
  obtain ⟨da, hlt, hm⟩ := mgW_inv hu
  have hb := hm.bl
  rw [smv6.e, wS (x := (m : Int) - (a : Int)) (by omega) (by omega), wS (x := (b : Int) - (m : Int)) (by omega) (by omega), Int.toNat_natCast, Int.toNat_natCast, hlt]
  by_cases e1 : m = a + 1
  · subst e1
    rw [show ((((a + 1 : Nat) : Int) - (a : Int)) == 1) = true from beq_iff_eq.2 (by omega), cond_true]
    exact smv6.left hd hlt hl hm hF 100 F (a + 1) b (by omega) (by omega) (by omega) (by omega) (.inl rfl) (.inl rfl) (by omega)
  rw [show (((m : Int) - (a : Int)) == 1) = false from beq_eq_false_iff_ne.2 (by omega), cond_false]
  by_cases e2 : b = m + 1
  · subst e2
    rw [show ((((m + 1 : Nat) : Int) - (m : Int)) == 1) = true from beq_iff_eq.2 (by omega), cond_true]
    exact smv6.right hd hlt hl hm hF 100 F a m (by omega) (by omega) (by omega) (by omega) (.inl rfl) (.inl rfl) (by omega)
  rw [show (((b : Int) - (m : Int)) == 1) = false from beq_eq_false_iff_ne.2 (by omega), cond_false]
  rw [halfV (by omega)]
  by_cases e3 : m > (a + b) / 2
  · rw [decide_eq_true (by omega), cond_true, wAdd (by omega), wSub (a := (a + b) / 2 + m) (by omega) (by omega)]
    exact smv6.seek (s0 := (a + b) / 2 + m - b) hd hlt hl hm (by omega) (by omega) (by omega) hF (.inl ⟨e3, rfl, by omega⟩) 100 F _ _ (by omega) (by omega) (by omega) (by omega) (.inl rfl) (.inl rfl) (by omega)
  · rw [decide_eq_false (by omega), cond_false]
    exact smv6.seek (s0 := a) hd hlt hl hm (by omega) (by omega) (by omega) hF (.inr ⟨by omega, rfl, rfl⟩) 100 F _ _ (by omega) (by omega) (by omega) (by omega) (.inl rfl) (.inl rfl) (by omega)

namespace stv
noncomputable def E : Entry := ⟨32, false, true, fun | [.rows true [(.i64, xs)], .d (.int .i64 n), .d (.fn false dom G)] => decide ((xs : List Int).length ≤ 60) && domA dom xs && stW G xs && decide (n = (((xs : List Int).length : Nat) : Int)) | _ => false, fun | [.rows true [(.i64, xs)], .d (.int .i64 n), .d (.fn false dom G)] => ([], [[(.ints .i64 (segS (ltG G) 0 (xs : List Int).length xs))]]) | _ => ([], []), fun _ => [], false, fun _ => none⟩
end stv
namespace stv
noncomputable def X : List Entry := [slices_insertionSortCmpFunc_int.E, smv6.E]
noncomputable def I : List Inl := [⟨32, Try.f32, ⟨[], [(1000002, [3, 4, 5, 9, 10, 11, 12, 13, 14, 15, 16, 17, 18, 19, 20, 21, 22, 23, 24, 25, 26, 27, 28, 29, 30, 31, 32, 33, 34, 35, 36, 37, 38, 39, 40, 41, 42, 43, 44, 45, 46, 47, 48, 49, 50, 51, 52, 53, 54, 55, 56, 57, 58, 59, 60, 61, 62]), (1000007, [3, 4, 5, 7, 8, 9, 10, 11, 12, 13, 14, 15, 16, 17, 18, 19, 20, 21, 22, 23, 24, 25, 26, 27, 28, 29, 30, 31, 32, 33, 34, 35, 36, 37, 38, 39, 40, 41, 42, 43, 44, 45, 46, 47, 48, 49, 50, 51, 52, 53, 54, 55, 56, 57, 58, 59, 60, 61, 62]), (1000009, [3, 4, 5, 9, 10, 11, 12, 13, 14, 15, 16, 17, 18, 19, 20, 21, 22, 23, 24, 25, 26, 27, 28, 29, 30, 31, 32, 33, 34, 35, 36, 37, 38, 39, 40, 41, 42, 43, 44, 45, 46, 47, 48, 49, 50, 51, 52, 53, 54, 55, 56, 57, 58, 59, 60, 61, 62])], [], [], [], []⟩⟩]
theorem I_ok : ∀ i ∈ I, Try.prog.funcs[i.f]? = some i.fn ∧ (i.fn.name == "runtime.NumGoroutine") = false := by
  intro i hi
  simp only [I, List.mem_cons, List.not_mem_nil, or_false] at hi
  subst hi
  exact ⟨by kernel_rfl, by kernel_rfl⟩
noncomputable abbrev L0 (fuel n : Nat) (s : St) (k : Kont) := lAt Try.prog X I fuel false 0 false 32 (bodyOf Try.f32) [1, 1, 0, 0] n s k
noncomputable abbrev k0  (fuel : Nat) : Kont := (kAt Try.prog X I fuel false 0 false 32 (bodyOf Try.f32) [1, 1, 0, 0] [] (endK Try.prog Try.f32))
noncomputable def t0 (p1 : Int) (p2d : List Q → Bool) (p2g : List Q → Int) (x0q4 : Int) (x0q5 : Int) (x0q6 : List Int) : St := ⟨[(.all 1000000000 1), (.imm (.int .i64 p1)), (.imm (.fn false p2d p2g)), .dead, .dead, .dead, (.imm (.int .i64 20)), (.imm (.int .i64 x0q4)), (.imm (.int .i64 x0q5)), .dead, .dead, .dead, .dead, .dead, .dead, .dead, .dead, .dead, .dead, .dead, .dead, .dead, .dead, .dead, .dead, .dead, .dead, .dead, .dead, .dead, .dead, .dead, .dead, .dead, .dead, .dead, .dead, .dead, .dead, .dead, .dead, .dead, .dead, .dead, .dead, .dead, .dead, .dead, .dead, .dead, .dead, .dead, .dead, .dead, .dead, .dead, .dead, .dead, .dead, .dead, .dead, .dead, .dead], hOf [(1000000000, (.ints .i64 x0q6))], [(.all 1000000000 1)], []⟩
noncomputable abbrev L1 (fuel n : Nat) (s : St) (k : Kont) := lAt Try.prog X I fuel false 0 false 32 (bodyOf Try.f32) [1, 1, 1, 1, 0] n s k
noncomputable abbrev k1  (fuel : Nat) : Kont := (kAt Try.prog X I fuel false 0 false 32 (bodyOf Try.f32) [1, 1, 1, 1, 0] [] (endK Try.prog Try.f32))
noncomputable def t1 (p1 : Int) (p2d : List Q → Bool) (p2g : List Q → Int) (x1q3 : Int) (x1q4 : List Int) : St := ⟨[(.all 1000000000 1), (.imm (.int .i64 p1)), (.imm (.fn false p2d p2g)), .dead, .dead, .dead, (.imm (.int .i64 x1q3)), .dead, .dead, .dead, .dead, .dead, .dead, .dead, .dead, .dead, .dead, .dead, .dead, .dead, .dead, .dead, .dead, .dead, .dead, .dead, .dead, .dead, .dead, .dead, .dead, .dead, .dead, .dead, .dead, .dead, .dead, .dead, .dead, .dead, .dead, .dead, .dead, .dead, .dead, .dead, .dead, .dead, .dead, .dead, .dead, .dead, .dead, .dead, .dead, .dead, .dead, .dead, .dead, .dead, .dead, .dead, .dead], hOf [(1000000000, (.ints .i64 x1q4))], [(.all 1000000000 1)], []⟩
noncomputable abbrev L2 (fuel n : Nat) (s : St) (k : Kont) := lAt Try.prog X I fuel false 0 false 32 (bodyOf Try.f32) [1, 1, 1, 1, 0, 0, 1, 0, 1, 0, 0] n s k
noncomputable abbrev k2 (n1 : Nat) (fuel : Nat) : Kont := (kAt Try.prog X I fuel false 0 false 32 (bodyOf Try.f32) [1, 1, 1, 1, 0, 0, 1, 0, 1, 0, 0] [n1] (endK Try.prog Try.f32))
noncomputable def t2 (p1 : Int) (p2d : List Q → Bool) (p2g : List Q → Int) (x1q3 : Int) (x2q4 : Int) (x2q5 : Int) (x2q6 : List Int) : St := ⟨[(.all 1000000000 1), (.imm (.int .i64 p1)), (.imm (.fn false p2d p2g)), .dead, .dead, .dead, (.imm (.int .i64 x1q3)), (.imm (.int .i64 x2q4)), (.imm (.int .i64 x2q5)), .dead, .dead, .dead, .dead, .dead, .dead, .dead, .dead, .dead, .dead, .dead, .dead, .dead, .dead, .dead, .dead, .dead, .dead, .dead, .dead, .dead, .dead, .dead, .dead, .dead, .dead, .dead, .dead, .dead, .dead, .dead, .dead, .dead, .dead, .dead, .dead, .dead, .dead, .dead, .dead, .dead, .dead, .dead, .dead, .dead, .dead, .dead, .dead, .dead, .dead, .dead, .dead, .dead, .dead], hOf [(1000000000, (.ints .i64 x2q6))], [(.all 1000000000 1)], []⟩
theorem e (fuel : Nat) (p0 : List Int) (p1 : Int) (p2d : List Q → Bool) (p2g : List Q → Int) : runF Try.prog X I 0 fuel 32 Try.f32 [.rows true [(.i64, p0)], .d (.int .i64 p1), .d (.fn false p2d p2g)] =
  L0 fuel fuel (t0 p1 p2d p2g 0 20 p0) (k0  fuel) := by kernel_rfl
theorem s0 (fuel n0 : Nat) (p1 : Int) (p2d : List Q → Bool) (p2g : List Q → Int) (x0q4 : Int) (x0q5 : Int) (x0q6 : List Int) : L0 fuel (n0 + 1) (t0 p1 p2d p2g x0q4 x0q5 x0q6) (k0  fuel) =
  (bif (decide ((x0q5 : Int) ≤ p1)) then
  (bif decide ((x0q6 : List Int).length ≤ 60) && domA p2d x0q6 && decide (0 ≤ x0q4) && decide (x0q4 ≤ x0q5) && decide (x0q5 ≤ (((x0q6 : List Int).length : Nat) : Int)) then
  L0 fuel n0 (t0 p1 p2d p2g x0q5 ((IntKind.wrap .i64 (x0q5 + 20))) ((isW p2g x0q4.toNat (x0q5 - x0q4).toNat x0q6))) (k0  fuel)
  else
  none)
  else
  (bif decide ((x0q6 : List Int).length ≤ 60) && domA p2d x0q6 && decide (0 ≤ x0q4) && decide (x0q4 ≤ p1) && decide (p1 ≤ (((x0q6 : List Int).length : Nat) : Int)) then
  L1 fuel fuel (t1 p1 p2d p2g 20 ((isW p2g x0q4.toNat (p1 - x0q4).toNat x0q6))) (k1  fuel)
  else
  none)) := by kernel_rfl
theorem s1 (fuel n1 : Nat) (p1 : Int) (p2d : List Q → Bool) (p2g : List Q → Int) (x1q3 : Int) (x1q4 : List Int) : L1 fuel (n1 + 1) (t1 p1 p2d p2g x1q3 x1q4) (k1  fuel) =
  (bif (decide ((x1q3 : Int) < p1)) then
  L2 fuel fuel (t2 p1 p2d p2g x1q3 0 ((IntKind.wrap .i64 (2 * x1q3))) x1q4) (k2 n1 fuel)
  else
  some ([], [[(.ints .i64 x1q4)]])) := by kernel_rfl
theorem s2 (fuel n1 n2 : Nat) (p1 : Int) (p2d : List Q → Bool) (p2g : List Q → Int) (x1q3 : Int) (x2q4 : Int) (x2q5 : Int) (x2q6 : List Int) : L2 fuel (n2 + 1) (t2 p1 p2d p2g x1q3 x2q4 x2q5 x2q6) (k2 n1 fuel) =
  (bif (decide ((x2q5 : Int) ≤ p1)) then
  (bif decide ((x2q6 : List Int).length ≤ 60) && domA p2d x2q6 && mgW p2g x2q6 x2q4 ((IntKind.wrap .i64 (x2q4 + x1q3))) x2q5 && decide (0 ≤ x2q4) && decide (x2q4 < ((IntKind.wrap .i64 (x2q4 + x1q3)))) && decide (((IntKind.wrap .i64 (x2q4 + x1q3))) < x2q5) && decide (x2q5 - x2q4 ≤ 64) then
  L2 fuel n2 (t2 p1 p2d p2g x1q3 x2q5 ((IntKind.wrap .i64 (x2q5 + (IntKind.wrap .i64 (2 * x1q3))))) ((segS (ltG p2g) x2q4.toNat x2q5.toNat x2q6))) (k2 n1 fuel)
  else
  none)
  else
  (bif (decide (((IntKind.wrap .i64 (x2q4 + x1q3)) : Int) < p1)) then
  (bif decide ((x2q6 : List Int).length ≤ 60) && domA p2d x2q6 && mgW p2g x2q6 x2q4 ((IntKind.wrap .i64 (x2q4 + x1q3))) p1 && decide (0 ≤ x2q4) && decide (x2q4 < ((IntKind.wrap .i64 (x2q4 + x1q3)))) && decide (((IntKind.wrap .i64 (x2q4 + x1q3))) < p1) && decide (p1 - x2q4 ≤ 64) then
  L1 fuel n1 (t1 p1 p2d p2g ((IntKind.wrap .i64 (x1q3 * 2))) ((segS (ltG p2g) x2q4.toNat p1.toNat x2q6))) (k1  fuel)
  else
  none)
  else
  L1 fuel n1 (t1 p1 p2d p2g ((IntKind.wrap .i64 (x1q3 * 2))) x2q6) (k1  fuel))) := by kernel_rfl
end stv
theorem stv.ok_of (hX : ∀ E ∈ stv.X, CallSpec Try.prog E) (h : ∀ (xs : List Int) (n : Int) (dom : List Q → Bool) (G : List Q → Int), (decide ((xs : List Int).length ≤ 60) && domA dom xs && stW G xs && decide (n = (((xs : List Int).length : Nat) : Int))) = true → ∃ fuel, runF Try.prog stv.X stv.I 0 fuel 32 Try.f32 [.rows true [(.i64, xs)], .d (.int .i64 n), .d (.fn false dom G)] = some ([], [[(.ints .i64 (segS (ltG G) 0 (xs : List Int).length xs))]])) : CallSpec Try.prog stv.E :=
  callSpec_of (d := 0) hX (by kernel_rfl) stv.I_ok (by kernel_rfl) (by kernel_rfl) (by kernel_rfl) (fun _ _ _ _ h => by dsimp only [stv.E] at h; cases h) (fun xs hp => by
    dsimp only [stv.E] at hp ⊢
    split at hp
    · exact h _ _ _ _ hp
    · cases hp)
theorem stv.big {F N : Nat} {xs ys : List Int} {dom : List Q → Bool} {G : List Q → Int} {da : List Int} (hF : 200 < F) (h60 : N ≤ 60) (hlt : ltG G = ltD da) (hd : domA dom ys = true) (h : IB da N N xs ys) : ∀ n : Nat, 5 < n →
    stv.L1 F n (stv.t1 (N : Int) dom G 20 ys) (stv.k1 F) = some ([], [[(.ints .i64 (segS (ltD da) 0 N xs))]]) := by
  intro n hn
  have hl := h.len
  have hxl : N = xs.length := by rw [← h.perm.length_eq, h.len]
  obtain ⟨n, rfl⟩ : ∃ k, n = k + 1 + 1 + 1 := ⟨n - 3, by omega⟩
  obtain ⟨f, hf⟩ : ∃ f, F = f + 1 + 1 := ⟨F - 2, by omega⟩
  rw [stv.s1]
  by_cases c0 : N ≤ 20
  · rw [decide_eq_false (by omega), cond_false, h.small c0]
  rw [decide_eq_true (by omega), cond_true, show IntKind.wrap .i64 (2 * 20) = 40 from rfl]
  conv => lhs; arg 2; rw [hf]
  rw [stv.s2, show IntKind.wrap .i64 (0 + 20) = 20 from rfl, show IntKind.wrap .i64 (2 * 20) = 40 from rfl, show IntKind.wrap .i64 (20 * 2) = 40 from rfl, show IntKind.wrap .i64 (40 + 40) = 80 from rfl]
  have fin : ∀ (n : Nat) (zs : List Int) (s : Int), (N : Int) ≤ s → stv.L1 F (n + 1) (stv.t1 (N : Int) dom G s zs) (stv.k1 F) = some ([], [[(.ints .i64 zs)]]) := by
    intro n zs s hs
    rw [stv.s1, decide_eq_false (by omega), cond_false]
  by_cases c1 : 40 ≤ N
  · have m := h.two (b := 40) (by omega) (by omega) c1
    have hm := mgW_of (G := G) hlt m
    have hpre : (decide ((ys : List Int).length ≤ 60) && domA dom ys && mgW G ys 0 20 40 && decide ((0 : Int) ≤ 0) && decide ((0 : Int) < 20) && decide ((20 : Int) < 40) && decide ((40 : Int) - 0 ≤ 64)) = true := by
      have e : mgW G ys 0 20 40 = true := hm
      rw [e, hd, decide_eq_true (show ys.length ≤ 60 by omega)]
      rfl
    have hl1 : (segS (ltD da) 0 40 ys).length = ys.length := segS_len (by omega) (by omega)
    have hd1 : domA dom (segS (ltD da) 0 40 ys) = true := segS_dom hd (by omega)
    have hp1 : (segS (ltD da) 0 40 ys).Perm xs := (segS_perm (by omega)).trans h.perm
    rw [decide_eq_true (p := (40 : Int) ≤ (N : Int)) (by omega), cond_true, hpre, cond_true, hlt]
    show stv.L2 F (f + 1) (stv.t2 (N : Int) dom G 20 40 80 (segS (ltD da) 0 40 ys)) (stv.k2 (n + 1 + 1) F) = _
    rw [stv.s2, show IntKind.wrap .i64 (40 + 20) = 60 from rfl, show IntKind.wrap .i64 (20 * 2) = 40 from rfl, decide_eq_false (p := (80 : Int) ≤ (N : Int)) (by omega), cond_false, decide_eq_false (p := (60 : Int) < (N : Int)) (by omega), cond_false]
    by_cases c2 : N = 40
    · have := m.whole (xs := xs) (N := 40) (by omega) h.perm
      rw [fin (n + 1) _ 40 (by omega)]
      subst c2
      rw [this]
    · have m3 := h.three c1 h60
      have hm3 := mgW_of (G := G) hlt m3
      have hpre3 : (decide (((segS (ltD da) 0 40 ys) : List Int).length ≤ 60) && domA dom (segS (ltD da) 0 40 ys) && mgW G (segS (ltD da) 0 40 ys) 0 40 (N : Int) && decide ((0 : Int) ≤ 0) && decide ((0 : Int) < 40) && decide ((40 : Int) < (N : Int)) && decide ((N : Int) - 0 ≤ 64)) = true := by
        have e : mgW G (segS (ltD da) 0 40 ys) 0 40 (N : Int) = true := hm3
        rw [e, hd1, decide_eq_true (show (segS (ltD da) 0 40 ys).length ≤ 60 by omega), decide_eq_true (p := (40 : Int) < (N : Int)) (by omega), decide_eq_true (p := (N : Int) - 0 ≤ 64) (by omega)]
        rfl
      rw [stv.s1, decide_eq_true (p := (40 : Int) < (N : Int)) (by omega), cond_true, show IntKind.wrap .i64 (2 * 40) = 80 from rfl]
      conv => lhs; arg 2; rw [hf]
      rw [stv.s2, show IntKind.wrap .i64 (0 + 40) = 40 from rfl, show IntKind.wrap .i64 (40 * 2) = 80 from rfl, decide_eq_false (p := (80 : Int) ≤ (N : Int)) (by omega), cond_false]
      rw [decide_eq_true (p := (40 : Int) < (N : Int)) (by omega)] at hpre3 ⊢
      rw [cond_true, hpre3, cond_true, hlt, fin n _ 80 (by omega), m3.whole (xs := xs) hxl hp1]
      rfl
  · have m := h.two (b := N) (by omega) (by omega) (by omega)
    have hm := mgW_of (G := G) hlt m
    have hpre : (decide ((ys : List Int).length ≤ 60) && domA dom ys && mgW G ys 0 20 (N : Int) && decide ((0 : Int) ≤ 0) && decide ((0 : Int) < 20) && decide ((20 : Int) < (N : Int)) && decide ((N : Int) - 0 ≤ 64)) = true := by
      have e : mgW G ys 0 20 (N : Int) = true := hm
      rw [e, hd, decide_eq_true (show ys.length ≤ 60 by omega), decide_eq_true (p := (20 : Int) < (N : Int)) (by omega), decide_eq_true (p := (N : Int) - 0 ≤ 64) (by omega)]
      rfl
    rw [decide_eq_false (p := (40 : Int) ≤ (N : Int)) (by omega), cond_false]
    rw [decide_eq_true (p := (20 : Int) < (N : Int)) (by omega)] at hpre ⊢
    rw [cond_true, hpre, cond_true, hlt, fin (n + 1) _ 40 (by omega), m.whole (xs := xs) hxl h.perm]
    rfl
theorem stv.blk {F N : Nat} {xs : List Int} {dom : List Q → Bool} {G : List Q → Int} {da : List Int} (hF : 200 < F) (hN : xs.length = N) (h60 : N ≤ 60) (hd : domA dom xs = true) (hlt : ltG G = ltD da) (hx : xs.Pairwise (· < ·)) : ∀ (d n a : Nat) (ys : List Int), N - a ≤ d → a ≤ N → a % 20 = 0 → IB da a N xs ys → d < n →
    stv.L0 F n (stv.t0 (N : Int) dom G (a : Int) ((a + 20 : Nat) : Int) ys) (stv.k0 F) = some ([], [[(.ints .i64 (segS (ltD da) 0 N xs))]]) := by
  have last : ∀ (n a : Nat) (ys : List Int), a ≤ N → N < a + 20 → a % 20 = 0 → IB da a N xs ys → stv.L0 F (n + 1) (stv.t0 (N : Int) dom G (a : Int) ((a + 20 : Nat) : Int) ys) (stv.k0 F) = some ([], [[(.ints .i64 (segS (ltD da) 0 N xs))]]) := by
    intro n a ys h2 hb ha h
    have hl := h.len
    have hdy := perm_dom hd h.perm
    have hpre : (decide (ys.length ≤ 60) && domA dom ys && decide ((0 : Int) ≤ (a : Int)) && decide ((a : Int) ≤ (N : Int)) && decide ((N : Int) ≤ ((ys.length : Nat) : Int))) = true := by
      simp only [hdy, Bool.and_true, Bool.and_eq_true, decide_eq_true_eq]
      omega
    have hw : isW G (a : Int).toNat ((N : Int) - (a : Int)).toNat ys = segS (ltD da) a N ys := by
      rw [Int.toNat_natCast, show ((N : Int) - (a : Int)).toNat = N - a by omega]
      exact h.ins hlt hx h2 (Nat.le_refl _)
    have h' := h.step hx ha h2 (by omega) (Nat.le_refl N)
    rw [stv.s0, decide_eq_false (by omega), cond_false, hpre, cond_true, hw]
    exact stv.big hF h60 hlt (perm_dom hd h'.perm) h' F (by omega)
  intro d
  induction d with
  | zero =>
    intro n a ys h1 h2 ha h h3
    obtain ⟨n, rfl⟩ : ∃ k, n = k + 1 := ⟨n - 1, by omega⟩
    exact last n a ys h2 (by omega) ha h
  | succ d ih =>
    intro n a ys h1 h2 ha h h3
    obtain ⟨n, rfl⟩ : ∃ k, n = k + 1 := ⟨n - 1, by omega⟩
    by_cases hb : a + 20 ≤ N
    · have hl := h.len
      have hdy := perm_dom hd h.perm
      have hpre : (decide (ys.length ≤ 60) && domA dom ys && decide ((0 : Int) ≤ (a : Int)) && decide ((a : Int) ≤ ((a + 20 : Nat) : Int)) && decide (((a + 20 : Nat) : Int) ≤ ((ys.length : Nat) : Int))) = true := by
        simp only [hdy, Bool.and_true, Bool.and_eq_true, decide_eq_true_eq]
        omega
      have hw : isW G (a : Int).toNat (((a + 20 : Nat) : Int) - (a : Int)).toNat ys = segS (ltD da) a (a + 20) ys := by
        rw [Int.toNat_natCast, show (((a + 20 : Nat) : Int) - (a : Int)).toNat = a + 20 - a by omega]
        exact h.ins hlt hx (by omega) hb
      rw [stv.s0, decide_eq_true (p := ((a + 20 : Nat) : Int) ≤ (N : Int)) (by omega), cond_true, hpre, cond_true, hw, wS (by omega) (by omega), show ((a + 20 : Nat) : Int) + 20 = ((a + 20 + 20 : Nat) : Int) by omega]
      exact ih n (a + 20) _ (by omega) hb (by omega) (h.step hx ha (by omega) (by omega) hb) (by omega)
    · exact last n a ys h2 (by omega) ha h
theorem stv.ok : CallSpec Try.prog stv.E := stv.ok_of (by simp [stv.X, slices_insertionSortCmpFunc_int.ok, smv6.ok]) fun xs n dom G h => by
  obtain ⟨F, hF⟩ : ∃ F : Nat, 200 < F := ⟨201, by omega⟩
  refine ⟨F, ?_⟩
  simp only [Bool.and_eq_true, decide_eq_true_eq] at h
  obtain ⟨⟨⟨h1, h2⟩, h3⟩, rfl⟩ := h
  obtain ⟨da, hlt, hx⟩ := stW_inv h3
  rw [stv.e, hlt]
  exact stv.blk hF rfl h1 h2 hlt hx 100 F 0 xs (by omega) (by omega) (by omega) (IB.first hx) (by omega)

namespace slices_SortStableFunc_int_int_v
noncomputable def E : Entry := ⟨21, false, true, fun | [.rows true [(.i64, xs)], .d (.fn false dom G)] => decide ((xs : List Int).length ≤ 60) && domA dom xs && stW G xs | _ => false, fun | [.rows true [(.i64, xs)], .d (.fn false dom G)] => ([], [[(.ints .i64 (segS (ltG G) 0 (xs : List Int).length xs))]]) | _ => ([], []), fun _ => [], false, fun _ => none⟩
end slices_SortStableFunc_int_int_v
namespace slices_SortStableFunc_int_int_v
noncomputable def X : List Entry := [stv.E]
noncomputable def I : List Inl := [⟨21, Try.f21, ⟨[], [(0, [2, 3, 4, 5, 6, 7, 8])], [], [], [], []⟩⟩]
theorem I_ok : ∀ i ∈ I, Try.prog.funcs[i.f]? = some i.fn ∧ (i.fn.name == "runtime.NumGoroutine") = false := by
  intro i hi
  simp only [I, List.mem_cons, List.not_mem_nil, or_false] at hi
  subst hi
  exact ⟨by kernel_rfl, by kernel_rfl⟩
theorem e (fuel : Nat) (p0 : List Int) (p1d : List Q → Bool) (p1g : List Q → Int) : runF Try.prog X I 0 fuel 21 Try.f21 [.rows true [(.i64, p0)], .d (.fn false p1d p1g)] =
  (bif decide ((p0 : List Int).length ≤ 60) && domA p1d p0 && stW p1g p0 && decide ((((p0.length : Nat) : Int)) = (((p0 : List Int).length : Nat) : Int)) then
  some ([], [[(.ints .i64 (segS (ltG p1g) 0 (p0 : List Int).length p0))]])
  else
  none) := by kernel_rfl
end slices_SortStableFunc_int_int_v
theorem slices_SortStableFunc_int_int_v.ok_of (hX : ∀ E ∈ slices_SortStableFunc_int_int_v.X, CallSpec Try.prog E) (h : ∀ (xs : List Int) (dom : List Q → Bool) (G : List Q → Int), (decide ((xs : List Int).length ≤ 60) && domA dom xs && stW G xs) = true → ∃ fuel, runF Try.prog slices_SortStableFunc_int_int_v.X slices_SortStableFunc_int_int_v.I 0 fuel 21 Try.f21 [.rows true [(.i64, xs)], .d (.fn false dom G)] = some ([], [[(.ints .i64 (segS (ltG G) 0 (xs : List Int).length xs))]])) : CallSpec Try.prog slices_SortStableFunc_int_int_v.E :=
  callSpec_of (d := 0) hX (by kernel_rfl) slices_SortStableFunc_int_int_v.I_ok (by kernel_rfl) (by kernel_rfl) (by kernel_rfl) (fun _ _ _ _ h => by dsimp only [slices_SortStableFunc_int_int_v.E] at h; cases h) (fun xs hp => by
    dsimp only [slices_SortStableFunc_int_int_v.E] at hp ⊢
    split at hp
    · exact h _ _ _ hp
    · cases hp)
theorem slices_SortStableFunc_int_int_v.ok : CallSpec Try.prog slices_SortStableFunc_int_int_v.E := slices_SortStableFunc_int_int_v.ok_of (by simp [slices_SortStableFunc_int_int_v.X, stv.ok]) fun xs dom G h => ⟨0, by
  rw [slices_SortStableFunc_int_int_v.e, h]
  simp only [decide_true, Bool.and_self, cond_true]⟩

namespace impl_GradeUp_v
noncomputable def E : Entry := ⟨8, false, false, fun | [.d (.agg [(.ints .i64 sh), (.ints .i64 da)])] => decide (sh.length < 9223372036854775808) && decide (da.length < 9223372036854775808) | _ => false, fun | [.d (.agg [(.ints .i64 sh), (.ints .i64 da)])] => ([.agg [((.ints .i64 (guS sh da)), true), ((.ints .i64 (guD sh da)), true)]], []) | _ => ([], []), fun _ => [], true, fun _ => none⟩
end impl_GradeUp_v
namespace impl_GradeUp_v
noncomputable def X : List Entry := [impl_isVector.E, impl_CountTo.E, impl_GradeUp_1.E, slices_SortStableFunc_int_int_v.E]
noncomputable def I : List Inl := [⟨8, Try.f8, ⟨[11], [(4, [0, 4, 5, 6, 7, 8, 9, 10, 11, 12, 13, 14, 15, 16])], [(4, [1])], [], [], []⟩⟩]
theorem I_ok : ∀ i ∈ I, Try.prog.funcs[i.f]? = some i.fn ∧ (i.fn.name == "runtime.NumGoroutine") = false := by
  intro i hi
  simp only [I, List.mem_cons, List.not_mem_nil, or_false] at hi
  subst hi
  exact ⟨by kernel_rfl, by kernel_rfl⟩
theorem e (fuel : Nat) (p0q0 : List Int) (p0q1 : List Int) : runF Try.prog X I 0 fuel 8 Try.f8 [.d (.agg [(.ints .i64 p0q0), (.ints .i64 p0q1)])] =
  (bif decide (p0q0.length < 9223372036854775808) && decide (p0q1.length < 9223372036854775808) then
  (bif (!(vcB p0q0 p0q1)) then
  some ([.agg [((.ints .i64 []), true), ((.ints .i64 []), true)]], [])
  else
  (bif decide ((((cntD (((p0q1.length : Nat) : Int)))) : List Int).length ≤ 60) && domA ((gdQ p0q1)) ((cntD (((p0q1.length : Nat) : Int)))) && stW ((q2v (gdC p0q1))) ((cntD (((p0q1.length : Nat) : Int)))) then
  some ([.agg [((.ints .i64 (cntS (((p0q1.length : Nat) : Int)))), true), ((.ints .i64 (segS (ltG ((q2v (gdC p0q1)))) 0 (((cntD (((p0q1.length : Nat) : Int)))) : List Int).length ((cntD (((p0q1.length : Nat) : Int)))))), true)]], [])
  else
  none))
  else
  none) := by kernel_rfl
end impl_GradeUp_v
theorem impl_GradeUp_v.ok_of (hX : ∀ E ∈ impl_GradeUp_v.X, CallSpec Try.prog E) (h : ∀ (sh : List Int) (da : List Int), (decide (sh.length < 9223372036854775808) && decide (da.length < 9223372036854775808)) = true → ∃ fuel, runF Try.prog impl_GradeUp_v.X impl_GradeUp_v.I 0 fuel 8 Try.f8 [.d (.agg [(.ints .i64 sh), (.ints .i64 da)])] = some ([.agg [((.ints .i64 (guS sh da)), true), ((.ints .i64 (guD sh da)), true)]], [])) : CallSpec Try.prog impl_GradeUp_v.E :=
  callSpec_of (d := 0) hX (by kernel_rfl) impl_GradeUp_v.I_ok (by kernel_rfl) (by kernel_rfl) (by kernel_rfl) (fun _ _ _ _ h => by dsimp only [impl_GradeUp_v.E] at h; cases h) (fun xs hp => by
    dsimp only [impl_GradeUp_v.E] at hp ⊢
    split at hp
    · exact h _ _ hp
    · cases hp)
theorem impl_GradeUp_v.ok : CallSpec Try.prog impl_GradeUp_v.E := impl_GradeUp_v.ok_of (by simp [impl_GradeUp_v.X, impl_isVector.ok, impl_CountTo.ok, impl_GradeUp_1.ok, slices_SortStableFunc_int_int_v.ok]) fun sh da h => ⟨0, by
  rw [impl_GradeUp_v.e, h]
  unfold guS guD
  cases hb : vcB sh da with
  | false => rfl
  | true =>
    obtain ⟨_, _, hl, _⟩ := vcB_inv hb
    obtain ⟨c1, c2⟩ := cnt_up (n := da.length) hl
    have hd : domA (gdQ da) (upN da.length) = true := gd_dom fun x hx => upN_mem.1 hx
    have hg := segS_gr da
    have hst := stW_of (G := q2v (gdC da)) (da := da) (ltG_gd da) (upN_up da.length)
    rw [c1, c2, hd, hst, ltG_gd, upN_length, hg, decide_eq_true hl]
    rfl⟩

namespace laws_eqIntS
noncomputable def E : Entry := ⟨24, true, false, fun | [.d (.ints .i64 xs), .d (.ints .i64 ys)] => decide (xs.length < 9223372036854775808) && decide (ys.length < 9223372036854775808) | _ => false, fun | [.d (.ints .i64 xs), .d (.ints .i64 ys)] => ([.one ((.bool (decide (xs = ys))), false)], []) | _ => ([], []), fun _ => [], false, fun _ => none⟩
end laws_eqIntS
namespace laws_eqIntS
noncomputable def X : List Entry := []
noncomputable def I : List Inl := [⟨24, Try.f24, ⟨[], [(1000004, [2, 3, 4, 6, 7, 8, 9, 10, 11, 12, 13, 14, 15, 16, 17, 18, 19, 20, 21, 22, 23, 24, 25])], [], [(6, [0, 1, 4, 5, 2, 3, 6, 7, 8])], [], []⟩⟩]
theorem I_ok : ∀ i ∈ I, Try.prog.funcs[i.f]? = some i.fn ∧ (i.fn.name == "runtime.NumGoroutine") = false := by
  intro i hi
  simp only [I, List.mem_cons, List.not_mem_nil, or_false] at hi
  subst hi
  exact ⟨by kernel_rfl, by kernel_rfl⟩
noncomputable abbrev L0 (fuel n : Nat) (s : St) (k : Kont) := lAt Try.prog X I fuel true 0 false 24 (bodyOf Try.f24) [1, 1, 0, 1, 0] n s k
noncomputable abbrev k0  (fuel : Nat) : Kont := (kAt Try.prog X I fuel true 0 false 24 (bodyOf Try.f24) [1, 1, 0, 1, 0] [] (endK Try.prog Try.f24))
noncomputable def t0 (p0 : List Int) (p1 : List Int) (x0q2 : Int) : St := ⟨[(.imm (.ints .i64 p0)), (.imm (.ints .i64 p1)), .dead, .dead, .dead, (.imm (.int .i64 x0q2)), .dead, .dead, .dead, .dead, .dead, .dead, .dead, .dead, .dead, .dead, .dead, .dead, .dead, .dead, .dead, .dead, .dead, .dead, .dead, .dead], hOf [], [], []⟩
theorem e (fuel : Nat) (p0 : List Int) (p1 : List Int) : runF Try.prog X I 0 fuel 24 Try.f24 [.d (.ints .i64 p0), .d (.ints .i64 p1)] =
  (bif ((((p0.length : Nat) : Int) : Int) != ((p1.length : Nat) : Int)) then
  some ([.one ((.bool false), false)], [])
  else
  L0 fuel fuel (t0 p0 p1 0) (k0  fuel)) := by kernel_rfl
theorem s0 (fuel n0 : Nat) (p0 : List Int) (p1 : List Int) (x0q2 : Int) : L0 fuel (n0 + 1) (t0 p0 p1 x0q2) (k0  fuel) =
  (bif (decide ((x0q2 : Int) < ((p0.length : Nat) : Int))) then
  (idx x0q2 p0.length).bind fun j9 =>
  (p0[j9]?).bind fun v10 =>
  (idx x0q2 p1.length).bind fun j11 =>
  (p1[j11]?).bind fun v12 =>
  (bif ((v10 : Int) != v12) then
  some ([.one ((.bool false), false)], [])
  else
  L0 fuel n0 (t0 p0 p1 ((IntKind.wrap .i64 (x0q2 + 1)))) (k0  fuel))
  else
  some ([.one ((.bool true), false)], [])) := by kernel_rfl
end laws_eqIntS
theorem laws_eqIntS.ok_of (hX : ∀ E ∈ laws_eqIntS.X, CallSpec Try.prog E) (h : ∀ (xs : List Int) (ys : List Int), (decide (xs.length < 9223372036854775808) && decide (ys.length < 9223372036854775808)) = true → ∃ fuel, runF Try.prog laws_eqIntS.X laws_eqIntS.I 0 fuel 24 Try.f24 [.d (.ints .i64 xs), .d (.ints .i64 ys)] = some ([.one ((.bool (decide (xs = ys))), false)], [])) : CallSpec Try.prog laws_eqIntS.E :=
  callSpec_of (d := 0) hX (by kernel_rfl) laws_eqIntS.I_ok (by kernel_rfl) (by kernel_rfl) (by kernel_rfl) (fun _ _ _ _ h => by dsimp only [laws_eqIntS.E] at h; cases h) (fun xs hp => by
    dsimp only [laws_eqIntS.E] at hp ⊢
    split at hp
    · exact h _ _ hp
    · cases hp)
theorem laws_eqIntS.loop (fuel : Nat) (xs ys : List Int) (hl : xs.length = ys.length) (hx : xs.length < 9223372036854775808) : ∀ (m n j : Nat), xs.length - j = m → m < n → j ≤ xs.length →
    laws_eqIntS.L0 fuel n (laws_eqIntS.t0 xs ys (j : Int)) (laws_eqIntS.k0 fuel) = some ([.one (.bool (decide (xs.drop j = ys.drop j)), false)], []) := by
  intro m
  induction m with
  | zero =>
    intro n j h1 h2 h3
    obtain ⟨n, rfl⟩ : ∃ n', n = n' + 1 := ⟨n - 1, by omega⟩
    have hj : ¬ j < xs.length := by omega
    rw [laws_eqIntS.s0, dge hj, dropE hj, dropE (xs := ys) (by omega)]
    rfl
  | succ m ih =>
    intro n j h1 h2 h3
    obtain ⟨n, rfl⟩ : ∃ n', n = n' + 1 := ⟨n - 1, by omega⟩
    have hj : j < xs.length := by omega
    have hj2 : j < ys.length := by omega
    rw [laws_eqIntS.s0, dlt hj, idx_nat hj, idx_nat hj2, w1 (by omega), dropS hj, dropS hj2]
    simp only [cond_true, Option.bind_some, getS hj, getS hj2]
    rw [ih n (j + 1) (by omega) (by omega) (by omega)]
    by_cases hv : xs[j] = ys[j]
    · rw [hv]
      simp only [bne_self_eq_false, cond_false, List.cons.injEq, true_and]
    · have : (xs[j] != ys[j]) = true := by simp [hv]
      rw [this]
      simp only [cond_true, List.cons.injEq, hv, false_and, decide_false]

theorem laws_eqIntS.ok : CallSpec Try.prog laws_eqIntS.E := laws_eqIntS.ok_of (by simp [laws_eqIntS.X]) fun xs ys h => by
  simp only [Bool.and_eq_true, decide_eq_true_eq] at h
  refine ⟨xs.length + 1, ?_⟩
  rw [laws_eqIntS.e]
  by_cases hl : xs.length = ys.length
  · have := laws_eqIntS.loop (xs.length + 1) xs ys hl h.1 xs.length (xs.length + 1) 0 (by omega) (by omega) (by omega)
    simp only [List.drop_zero] at this
    simp only [hl, bne_self_eq_false, cond_false]
    rw [← hl]
    exact this
  · have hne : xs ≠ ys := fun e => hl (e ▸ rfl)
    have : (((xs.length : Nat) : Int) != ((ys.length : Nat) : Int)) = true := by simp; omega
    rw [this]
    simp [hne]

namespace laws_eqArray
noncomputable def E : Entry := ⟨9, true, false, fun | [.d (.agg [(.ints .i64 sa), (.ints .i64 da)]), .d (.agg [(.ints .i64 sb), (.ints .i64 db)])] => decide (sa.length < 9223372036854775808) && decide (da.length < 9223372036854775808) && decide (sb.length < 9223372036854775808) && decide (db.length < 9223372036854775808) | _ => false, fun | [.d (.agg [(.ints .i64 sa), (.ints .i64 da)]), .d (.agg [(.ints .i64 sb), (.ints .i64 db)])] => ([.one ((.bool (decide (sa = sb) && decide (da = db))), false)], []) | _ => ([], []), fun _ => [], false, fun _ => none⟩
end laws_eqArray
namespace laws_eqArray
noncomputable def X : List Entry := [laws_eqIntS.E]
noncomputable def I : List Inl := [⟨9, Try.f9, ⟨[], [], [], [], [], []⟩⟩]
theorem I_ok : ∀ i ∈ I, Try.prog.funcs[i.f]? = some i.fn ∧ (i.fn.name == "runtime.NumGoroutine") = false := by
  intro i hi
  simp only [I, List.mem_cons, List.not_mem_nil, or_false] at hi
  subst hi
  exact ⟨by kernel_rfl, by kernel_rfl⟩
theorem e (fuel : Nat) (p0q0 : List Int) (p0q1 : List Int) (p1q0 : List Int) (p1q1 : List Int) : runF Try.prog X I 0 fuel 9 Try.f9 [.d (.agg [(.ints .i64 p0q0), (.ints .i64 p0q1)]), .d (.agg [(.ints .i64 p1q0), (.ints .i64 p1q1)])] =
  (bif decide (p0q0.length < 9223372036854775808) && decide (p1q0.length < 9223372036854775808) then
  (bif (!(decide (p0q0 = p1q0))) then
  some ([.one ((.bool false), false)], [])
  else
  (bif decide (p0q1.length < 9223372036854775808) && decide (p1q1.length < 9223372036854775808) then
  (bif (!(decide (p0q1 = p1q1))) then
  some ([.one ((.bool false), false)], [])
  else
  some ([.one ((.bool true), false)], []))
  else
  none))
  else
  none) := by kernel_rfl
end laws_eqArray
theorem laws_eqArray.ok_of (hX : ∀ E ∈ laws_eqArray.X, CallSpec Try.prog E) (h : ∀ (sa : List Int) (da : List Int) (sb : List Int) (db : List Int), (decide (sa.length < 9223372036854775808) && decide (da.length < 9223372036854775808) && decide (sb.length < 9223372036854775808) && decide (db.length < 9223372036854775808)) = true → ∃ fuel, runF Try.prog laws_eqArray.X laws_eqArray.I 0 fuel 9 Try.f9 [.d (.agg [(.ints .i64 sa), (.ints .i64 da)]), .d (.agg [(.ints .i64 sb), (.ints .i64 db)])] = some ([.one ((.bool (decide (sa = sb) && decide (da = db))), false)], [])) : CallSpec Try.prog laws_eqArray.E :=
  callSpec_of (d := 0) hX (by kernel_rfl) laws_eqArray.I_ok (by kernel_rfl) (by kernel_rfl) (by kernel_rfl) (fun _ _ _ _ h => by dsimp only [laws_eqArray.E] at h; cases h) (fun xs hp => by
    dsimp only [laws_eqArray.E] at hp ⊢
    split at hp
    · exact h _ _ _ _ hp
    · cases hp)
theorem laws_eqArray.ok : CallSpec Try.prog laws_eqArray.E := laws_eqArray.ok_of (by simp [laws_eqArray.X, laws_eqIntS.ok]) fun sa da sb db h => ⟨0, by
  simp only [Bool.and_eq_true, decide_eq_true_eq] at h
  obtain ⟨⟨⟨h1, h2⟩, h3⟩, h4⟩ := h
  rw [laws_eqArray.e]
  simp only [h1, h2, h3, h4, decide_true, Bool.and_self, cond_true]
  cases decide (sa = sb) <;> cases decide (da = db) <;> rfl⟩

namespace laws_markIntS
noncomputable def E : Entry := ⟨25, false, true, fun | [.rows true [(.i64, xs)], .d (.int .i64 k)] => decide (xs.length < 9223372036854775808) | _ => false, fun | [.rows true [(.i64, xs)], .d (.int .i64 k)] => ([.one ((.int .i64 (markK xs k)), false)], [[(.ints .i64 (markL xs k))]]) | _ => ([], []), fun _ => [], false, fun _ => none⟩
end laws_markIntS
namespace laws_markIntS
noncomputable def X : List Entry := []
noncomputable def I : List Inl := [⟨25, Try.f25, ⟨[], [(1000002, [2, 3, 4, 6, 7, 8, 9, 10, 11, 12, 13, 14, 15, 16, 17, 18])], [], [], [], []⟩⟩]
theorem I_ok : ∀ i ∈ I, Try.prog.funcs[i.f]? = some i.fn ∧ (i.fn.name == "runtime.NumGoroutine") = false := by
  intro i hi
  simp only [I, List.mem_cons, List.not_mem_nil, or_false] at hi
  subst hi
  exact ⟨by kernel_rfl, by kernel_rfl⟩
noncomputable abbrev L0 (fuel n : Nat) (s : St) (k : Kont) := lAt Try.prog X I fuel false 0 false 25 (bodyOf Try.f25) [1, 0, 1, 0] n s k
noncomputable abbrev k0  (fuel : Nat) : Kont := (kAt Try.prog X I fuel false 0 false 25 (bodyOf Try.f25) [1, 0, 1, 0] [] (endK Try.prog Try.f25))
noncomputable def t0 (x0q0 : Int) (x0q1 : Int) (x0q2 : List Int) : St := ⟨[(.all 1000000000 1), (.imm (.int .i64 x0q0)), .dead, .dead, .dead, (.imm (.int .i64 x0q1)), .dead, .dead, .dead, .dead, .dead, .dead, .dead, .dead, .dead, .dead, .dead, .dead, .dead], hOf [(1000000000, (.ints .i64 x0q2))], [(.all 1000000000 1)], []⟩
theorem e (fuel : Nat) (p0 : List Int) (p1 : Int) : runF Try.prog X I 0 fuel 25 Try.f25 [.rows true [(.i64, p0)], .d (.int .i64 p1)] =
  L0 fuel fuel (t0 p1 0 p0) (k0  fuel) := by kernel_rfl
theorem s0 (fuel n0 : Nat) (x0q0 : Int) (x0q1 : Int) (x0q2 : List Int) : L0 fuel (n0 + 1) (t0 x0q0 x0q1 x0q2) (k0  fuel) =
  (bif (decide ((x0q1 : Int) < ((x0q2.length : Nat) : Int))) then
  (idx x0q1 x0q2.length).bind fun j3 =>
  (bif decide (j3 < x0q2.length) then
  L0 fuel n0 (t0 ((IntKind.wrap .i64 (x0q0 + 1))) ((IntKind.wrap .i64 (x0q1 + 1))) ((x0q2.set j3 x0q0))) (k0  fuel)
  else
  none)
  else
  some ([.one ((.int .i64 x0q0), false)], [[(.ints .i64 x0q2)]])) := by kernel_rfl
end laws_markIntS
theorem laws_markIntS.ok_of (hX : ∀ E ∈ laws_markIntS.X, CallSpec Try.prog E) (h : ∀ (xs : List Int) (k : Int), (decide (xs.length < 9223372036854775808)) = true → ∃ fuel, runF Try.prog laws_markIntS.X laws_markIntS.I 0 fuel 25 Try.f25 [.rows true [(.i64, xs)], .d (.int .i64 k)] = some ([.one ((.int .i64 (markK xs k)), false)], [[(.ints .i64 (markL xs k))]])) : CallSpec Try.prog laws_markIntS.E :=
  callSpec_of (d := 0) hX (by kernel_rfl) laws_markIntS.I_ok (by kernel_rfl) (by kernel_rfl) (by kernel_rfl) (fun _ _ _ _ h => by dsimp only [laws_markIntS.E] at h; cases h) (fun xs hp => by
    dsimp only [laws_markIntS.E] at hp ⊢
    split at hp
    · exact h _ _ hp
    · cases hp)
theorem laws_markIntS.loop (fuel : Nat) : ∀ (m n j : Nat) (k : Int) (xs : List Int), xs.length < 9223372036854775808 → xs.length - j = m → m < n → j ≤ xs.length →
    laws_markIntS.L0 fuel n (laws_markIntS.t0 k (j : Int) xs) (laws_markIntS.k0 fuel) = some ([.one (.int .i64 (markK (xs.drop j) k), false)], [[.ints .i64 (xs.take j ++ markL (xs.drop j) k)]]) := by
  intro m
  induction m with
  | zero =>
    intro n j k xs hx h1 h2 h3
    obtain ⟨n, rfl⟩ : ∃ n', n = n' + 1 := ⟨n - 1, by omega⟩
    have hj : ¬ j < xs.length := by omega
    have : xs.take j = xs := List.take_of_length_le (by omega)
    rw [laws_markIntS.s0, dge hj, dropE hj, this]
    simp [markL, markK]
  | succ m ih =>
    intro n j k xs hx h1 h2 h3
    obtain ⟨n, rfl⟩ : ∃ n', n = n' + 1 := ⟨n - 1, by omega⟩
    have hj : j < xs.length := by omega
    rw [laws_markIntS.s0, dlt hj, idx_nat hj, w1 (by omega), dropS hj]
    simp only [cond_true, Option.bind_some, hj, decide_true]
    rw [ih n (j + 1) _ (xs.set j k) (by simpa using hx) (by simp; omega) (by omega) (by simp; omega)]
    have e1 : (xs.set j k).drop (j + 1) = xs.drop (j + 1) := by simp [List.drop_set]
    have e2 : (xs.set j k).take (j + 1) = xs.take j ++ [k] := by
      rw [List.take_add_one]
      simp [List.take_set, hj]
      exact List.set_eq_of_length_le (by simp; omega)
    rw [e1, e2]
    simp [markL, markK]

theorem laws_markIntS.ok : CallSpec Try.prog laws_markIntS.E := laws_markIntS.ok_of (by simp [laws_markIntS.X]) fun xs k h => by
  simp only [decide_eq_true_eq] at h
  refine ⟨xs.length + 1, ?_⟩
  rw [laws_markIntS.e]
  have := laws_markIntS.loop (xs.length + 1) xs.length (xs.length + 1) 0 k xs h (by omega) (by omega) (by omega)
  simpa using this

namespace laws_markArray
noncomputable def E : Entry := ⟨10, false, true, fun | [.rows false [(.i64, sh), (.i64, da)], .d (.int .i64 k)] => decide (sh.length < 9223372036854775808) && decide (da.length < 9223372036854775808) | _ => false, fun | [.rows false [(.i64, sh), (.i64, da)], .d (.int .i64 k)] => ([.one ((.int .i64 (markK da (markK sh k))), false)], [[(.ints .i64 (markL sh k))], [(.ints .i64 (markL da (markK sh k)))]]) | _ => ([], []), fun _ => [], false, fun _ => none⟩
end laws_markArray
namespace laws_markArray
noncomputable def X : List Entry := [laws_markIntS.E]
noncomputable def I : List Inl := [⟨10, Try.f10, ⟨[], [], [], [], [], []⟩⟩]
theorem I_ok : ∀ i ∈ I, Try.prog.funcs[i.f]? = some i.fn ∧ (i.fn.name == "runtime.NumGoroutine") = false := by
  intro i hi
  simp only [I, List.mem_cons, List.not_mem_nil, or_false] at hi
  subst hi
  exact ⟨by kernel_rfl, by kernel_rfl⟩
theorem e (fuel : Nat) (p0q0 : List Int) (p0q1 : List Int) (p1 : Int) : runF Try.prog X I 0 fuel 10 Try.f10 [.rows false [(.i64, p0q0), (.i64, p0q1)], .d (.int .i64 p1)] =
  (bif decide (p0q0.length < 9223372036854775808) then
  (bif decide (p0q1.length < 9223372036854775808) then
  some ([.one ((.int .i64 (markK p0q1 ((markK p0q0 p1)))), false)], [[(.ints .i64 (markL p0q0 p1))], [(.ints .i64 (markL p0q1 ((markK p0q0 p1))))]])
  else
  none)
  else
  none) := by kernel_rfl
end laws_markArray
theorem laws_markArray.ok_of (hX : ∀ E ∈ laws_markArray.X, CallSpec Try.prog E) (h : ∀ (sh : List Int) (da : List Int) (k : Int), (decide (sh.length < 9223372036854775808) && decide (da.length < 9223372036854775808)) = true → ∃ fuel, runF Try.prog laws_markArray.X laws_markArray.I 0 fuel 10 Try.f10 [.rows false [(.i64, sh), (.i64, da)], .d (.int .i64 k)] = some ([.one ((.int .i64 (markK da (markK sh k))), false)], [[(.ints .i64 (markL sh k))], [(.ints .i64 (markL da (markK sh k)))]])) : CallSpec Try.prog laws_markArray.E :=
  callSpec_of (d := 0) hX (by kernel_rfl) laws_markArray.I_ok (by kernel_rfl) (by kernel_rfl) (by kernel_rfl) (fun _ _ _ _ h => by dsimp only [laws_markArray.E] at h; cases h) (fun xs hp => by
    dsimp only [laws_markArray.E] at hp ⊢
    split at hp
    · exact h _ _ _ hp
    · cases hp)
theorem laws_markArray.ok : CallSpec Try.prog laws_markArray.E := laws_markArray.ok_of (by simp [laws_markArray.X, laws_markIntS.ok]) fun sh da k h => ⟨0, by
  simp only [Bool.and_eq_true, decide_eq_true_eq] at h
  rw [laws_markArray.e]
  simp only [h.1, h.2, decide_true, cond_true]⟩

namespace laws_heldIntS
noncomputable def E : Entry := ⟨26, true, false, fun | [.d (.ints .i64 xs), .d (.int .i64 k)] => decide (xs.length < 9223372036854775808) | _ => false, fun | [.d (.ints .i64 xs), .d (.int .i64 k)] => ([.one ((.int .i64 (heldL xs k)), false)], []) | _ => ([], []), fun _ => [], false, fun _ => none⟩
end laws_heldIntS
namespace laws_heldIntS
noncomputable def X : List Entry := []
noncomputable def I : List Inl := [⟨26, Try.f26, ⟨[], [(1000002, [2, 3, 4, 6, 7, 8, 9, 10, 11, 12, 13, 14, 15, 16, 17, 18, 19, 20])], [], [], [], []⟩⟩]
theorem I_ok : ∀ i ∈ I, Try.prog.funcs[i.f]? = some i.fn ∧ (i.fn.name == "runtime.NumGoroutine") = false := by
  intro i hi
  simp only [I, List.mem_cons, List.not_mem_nil, or_false] at hi
  subst hi
  exact ⟨by kernel_rfl, by kernel_rfl⟩
noncomputable abbrev L0 (fuel n : Nat) (s : St) (k : Kont) := lAt Try.prog X I fuel true 0 false 26 (bodyOf Try.f26) [1, 0, 1, 0] n s k
noncomputable abbrev k0  (fuel : Nat) : Kont := (kAt Try.prog X I fuel true 0 false 26 (bodyOf Try.f26) [1, 0, 1, 0] [] (endK Try.prog Try.f26))
noncomputable def t0 (p0 : List Int) (x0q1 : Int) (x0q2 : Int) : St := ⟨[(.imm (.ints .i64 p0)), (.imm (.int .i64 x0q1)), .dead, .dead, .dead, (.imm (.int .i64 x0q2)), .dead, .dead, .dead, .dead, .dead, .dead, .dead, .dead, .dead, .dead, .dead, .dead, .dead, .dead, .dead], hOf [], [], []⟩
theorem e (fuel : Nat) (p0 : List Int) (p1 : Int) : runF Try.prog X I 0 fuel 26 Try.f26 [.d (.ints .i64 p0), .d (.int .i64 p1)] =
  L0 fuel fuel (t0 p0 p1 0) (k0  fuel) := by kernel_rfl
theorem s0 (fuel n0 : Nat) (p0 : List Int) (x0q1 : Int) (x0q2 : Int) : L0 fuel (n0 + 1) (t0 p0 x0q1 x0q2) (k0  fuel) =
  (bif (decide ((x0q2 : Int) < ((p0.length : Nat) : Int))) then
  (idx x0q2 p0.length).bind fun j5 =>
  (p0[j5]?).bind fun v6 =>
  (bif ((v6 : Int) != x0q1) then
  some ([.one ((.int .i64 (-1)), false)], [])
  else
  L0 fuel n0 (t0 p0 ((IntKind.wrap .i64 (x0q1 + 1))) ((IntKind.wrap .i64 (x0q2 + 1)))) (k0  fuel))
  else
  some ([.one ((.int .i64 x0q1), false)], [])) := by kernel_rfl
end laws_heldIntS
theorem laws_heldIntS.ok_of (hX : ∀ E ∈ laws_heldIntS.X, CallSpec Try.prog E) (h : ∀ (xs : List Int) (k : Int), (decide (xs.length < 9223372036854775808)) = true → ∃ fuel, runF Try.prog laws_heldIntS.X laws_heldIntS.I 0 fuel 26 Try.f26 [.d (.ints .i64 xs), .d (.int .i64 k)] = some ([.one ((.int .i64 (heldL xs k)), false)], [])) : CallSpec Try.prog laws_heldIntS.E :=
  callSpec_of (d := 0) hX (by kernel_rfl) laws_heldIntS.I_ok (by kernel_rfl) (by kernel_rfl) (by kernel_rfl) (fun _ _ _ _ h => by dsimp only [laws_heldIntS.E] at h; cases h) (fun xs hp => by
    dsimp only [laws_heldIntS.E] at hp ⊢
    split at hp
    · exact h _ _ hp
    · cases hp)
theorem laws_heldIntS.loop (fuel : Nat) (xs : List Int) (hx : xs.length < 9223372036854775808) : ∀ (m n j : Nat) (k : Int), xs.length - j = m → m < n → j ≤ xs.length →
    laws_heldIntS.L0 fuel n (laws_heldIntS.t0 xs k (j : Int)) (laws_heldIntS.k0 fuel) = some ([.one (.int .i64 (heldL (xs.drop j) k), false)], []) := by
  intro m
  induction m with
  | zero =>
    intro n j k h1 h2 h3
    obtain ⟨n, rfl⟩ : ∃ n', n = n' + 1 := ⟨n - 1, by omega⟩
    have hj : ¬ j < xs.length := by omega
    rw [laws_heldIntS.s0, dge hj, dropE hj]
    rfl
  | succ m ih =>
    intro n j k h1 h2 h3
    obtain ⟨n, rfl⟩ : ∃ n', n = n' + 1 := ⟨n - 1, by omega⟩
    have hj : j < xs.length := by omega
    rw [laws_heldIntS.s0, dlt hj, idx_nat hj, w1 (by omega), dropS hj]
    simp only [cond_true, Option.bind_some, getS hj, heldL]
    rw [ih n (j + 1) _ (by omega) (by omega) (by omega)]
    cases (xs[j] != k) <;> rfl

theorem laws_heldIntS.ok : CallSpec Try.prog laws_heldIntS.E := laws_heldIntS.ok_of (by simp [laws_heldIntS.X]) fun xs k h => by
  simp only [decide_eq_true_eq] at h
  refine ⟨xs.length + 1, ?_⟩
  rw [laws_heldIntS.e]
  exact laws_heldIntS.loop (xs.length + 1) xs h xs.length (xs.length + 1) 0 k (by omega) (by omega) (by omega)

namespace laws_heldArray
noncomputable def E : Entry := ⟨11, true, false, fun | [.d (.agg [(.ints .i64 sh), (.ints .i64 da)]), .d (.int .i64 k)] => decide (sh.length < 9223372036854775808) && decide (da.length < 9223372036854775808) | _ => false, fun | [.d (.agg [(.ints .i64 sh), (.ints .i64 da)]), .d (.int .i64 k)] => ([.one ((.int .i64 (heldA sh da k)), false)], []) | _ => ([], []), fun _ => [], false, fun _ => none⟩
end laws_heldArray
namespace laws_heldArray
noncomputable def X : List Entry := [laws_heldIntS.E]
noncomputable def I : List Inl := [⟨11, Try.f11, ⟨[], [], [], [], [], []⟩⟩]
theorem I_ok : ∀ i ∈ I, Try.prog.funcs[i.f]? = some i.fn ∧ (i.fn.name == "runtime.NumGoroutine") = false := by
  intro i hi
  simp only [I, List.mem_cons, List.not_mem_nil, or_false] at hi
  subst hi
  exact ⟨by kernel_rfl, by kernel_rfl⟩
theorem e (fuel : Nat) (p0q0 : List Int) (p0q1 : List Int) (p1 : Int) : runF Try.prog X I 0 fuel 11 Try.f11 [.d (.agg [(.ints .i64 p0q0), (.ints .i64 p0q1)]), .d (.int .i64 p1)] =
  (bif decide (p0q0.length < 9223372036854775808) then
  (bif (decide (((heldL p0q0 p1) : Int) < 0)) then
  some ([.one ((.int .i64 (-1)), false)], [])
  else
  (bif decide (p0q1.length < 9223372036854775808) then
  (bif (decide (((heldL p0q1 ((heldL p0q0 p1))) : Int) < 0)) then
  some ([.one ((.int .i64 (-1)), false)], [])
  else
  some ([.one ((.int .i64 (heldL p0q1 ((heldL p0q0 p1)))), false)], []))
  else
  none))
  else
  none) := by kernel_rfl
end laws_heldArray
theorem laws_heldArray.ok_of (hX : ∀ E ∈ laws_heldArray.X, CallSpec Try.prog E) (h : ∀ (sh : List Int) (da : List Int) (k : Int), (decide (sh.length < 9223372036854775808) && decide (da.length < 9223372036854775808)) = true → ∃ fuel, runF Try.prog laws_heldArray.X laws_heldArray.I 0 fuel 11 Try.f11 [.d (.agg [(.ints .i64 sh), (.ints .i64 da)]), .d (.int .i64 k)] = some ([.one ((.int .i64 (heldA sh da k)), false)], [])) : CallSpec Try.prog laws_heldArray.E :=
  callSpec_of (d := 0) hX (by kernel_rfl) laws_heldArray.I_ok (by kernel_rfl) (by kernel_rfl) (by kernel_rfl) (fun _ _ _ _ h => by dsimp only [laws_heldArray.E] at h; cases h) (fun xs hp => by
    dsimp only [laws_heldArray.E] at hp ⊢
    split at hp
    · exact h _ _ _ hp
    · cases hp)
theorem laws_heldArray.ok : CallSpec Try.prog laws_heldArray.E := laws_heldArray.ok_of (by simp [laws_heldArray.X, laws_heldIntS.ok]) fun sh da k h => ⟨0, by
  simp only [Bool.and_eq_true, decide_eq_true_eq] at h
  rw [laws_heldArray.e]
  unfold heldA
  simp only [h.1, h.2, decide_true, cond_true]
  cases decide (heldL sh k < 0) <;> cases decide (heldL da (heldL sh k) < 0) <;> rfl⟩

namespace laws_FnExactGradeUp
noncomputable def E : Entry := ⟨3, true, false, fun | [.d (.agg [(.ints .i64 sh), (.ints .i64 da)])] => decide (sh.length < 9223372036854775808) && decide (da.length < 9223372036854775808) | _ => false, fun | [.d (.agg [(.ints .i64 sh), (.ints .i64 da)])] => ([.one ((.bool true), false)], []) | _ => ([], []), fun _ => [], false, fun _ => none⟩
end laws_FnExactGradeUp
namespace laws_FnExactGradeUp
noncomputable def X : List Entry := [laws_szArray.E, laws_toArray.E, spec_GradeUp.E, impl_GradeUp_v.E, laws_eqArray.E, laws_markArray.E, laws_heldArray.E]
noncomputable def I : List Inl := [⟨3, Try.f3, ⟨[17, 18, 20, 22, 29, 55, 56], [(7, [0, 2, 3, 6, 7, 8, 9, 10, 11, 12, 13, 14, 15, 16, 17, 18, 19, 20, 21, 22, 23, 24, 25, 26, 27, 28, 29, 30, 31, 32, 33, 34, 35, 36, 37, 38, 39, 40, 41, 42, 43, 44, 45, 46, 47, 48, 49, 50, 51, 52, 53, 54, 55, 56, 57, 58, 59, 60, 61, 62, 63, 64, 65, 66, 67, 68]), (24, [0, 2, 3, 5, 7, 9, 10, 11, 12, 13, 14, 15, 16, 17, 18, 19, 20, 21, 22, 23, 24, 25, 26, 27, 28, 29, 30, 31, 32, 33, 34, 35, 36, 37, 38, 39, 40, 41, 42, 43, 44, 45, 46, 47, 48, 49, 50, 51, 52, 53, 54, 55, 56, 57, 58, 59, 60, 61, 62, 63, 64, 65, 66, 67, 68])], [], [], [], []⟩⟩]
theorem I_ok : ∀ i ∈ I, Try.prog.funcs[i.f]? = some i.fn ∧ (i.fn.name == "runtime.NumGoroutine") = false := by
  intro i hi
  simp only [I, List.mem_cons, List.not_mem_nil, or_false] at hi
  subst hi
  exact ⟨by kernel_rfl, by kernel_rfl⟩
theorem e (fuel : Nat) (p0q0 : List Int) (p0q1 : List Int) : runF Try.prog X I 0 fuel 3 Try.f3 [.d (.agg [(.ints .i64 p0q0), (.ints .i64 p0q1)])] =
  (bif (decide (((szA p0q0 p0q1 1048576) : Int) < 0)) then
  some ([.one ((.bool true), false)], [])
  else
  (bif szB p0q0 && szB p0q1 then
  (bif decide (p0q0.length < 9223372036854775808) && decide (p0q1.length < 9223372036854775808) then
  (bif szB p0q0 && szB p0q1 then
  (bif decide (p0q0.length < 9223372036854775808) && decide (p0q1.length < 9223372036854775808) then
  (bif decide (((guS p0q0 p0q1)).length < 9223372036854775808) && decide (((guD p0q0 p0q1)).length < 9223372036854775808) && decide (((guS p0q0 p0q1)).length < 9223372036854775808) && decide (((guD p0q0 p0q1)).length < 9223372036854775808) then
  (bif (!(decide (((guS p0q0 p0q1)) = ((guS p0q0 p0q1))) && decide (((guD p0q0 p0q1)) = ((guD p0q0 p0q1))))) then
  some ([.one ((.bool false), false)], [])
  else
  (bif szB p0q0 && szB p0q1 then
  (bif decide (p0q0.length < 9223372036854775808) && decide (p0q1.length < 9223372036854775808) && decide (p0q0.length < 9223372036854775808) && decide (p0q1.length < 9223372036854775808) then
  (bif (!(decide (p0q0 = p0q0) && decide (p0q1 = p0q1))) then
  some ([.one ((.bool false), false)], [])
  else
  (bif decide (p0q0.length < 9223372036854775808) && decide (p0q1.length < 9223372036854775808) then
  (bif (decide (((markK p0q1 (markK p0q0 1)) : Int) < 0)) then
  some ([.one ((.bool false), false)], [])
  else
  (bif decide (((guS p0q0 p0q1)).length < 9223372036854775808) && decide (((guD p0q0 p0q1)).length < 9223372036854775808) && decide (((guS p0q0 p0q1)).length < 9223372036854775808) && decide (((guD p0q0 p0q1)).length < 9223372036854775808) then
  (bif (!(decide (((guS p0q0 p0q1)) = ((guS p0q0 p0q1))) && decide (((guD p0q0 p0q1)) = ((guD p0q0 p0q1))))) then
  some ([.one ((.bool false), false)], [])
  else
  (bif decide (((guS p0q0 p0q1)).length < 9223372036854775808) && decide (((guD p0q0 p0q1)).length < 9223372036854775808) then
  (bif decide (((markL ((guS p0q0 p0q1)) 1)).length < 9223372036854775808) && decide (((markL ((guD p0q0 p0q1)) (markK ((guS p0q0 p0q1)) 1))).length < 9223372036854775808) then
  (bif (decide (((heldA ((markL ((guS p0q0 p0q1)) 1)) ((markL ((guD p0q0 p0q1)) (markK ((guS p0q0 p0q1)) 1))) 1) : Int) < 0)) then
  some ([.one ((.bool false), false)], [])
  else
  (bif (((heldA ((markL ((guS p0q0 p0q1)) 1)) ((markL ((guD p0q0 p0q1)) (markK ((guS p0q0 p0q1)) 1))) 1) : Int) != (markK ((guD p0q0 p0q1)) (markK ((guS p0q0 p0q1)) 1))) then
  some ([.one ((.bool false), false)], [])
  else
  (bif szB p0q0 && szB p0q1 then
  (bif decide (p0q0.length < 9223372036854775808) && decide (p0q1.length < 9223372036854775808) then
  (bif decide (((guS p0q0 p0q1)).length < 9223372036854775808) && decide (((guD p0q0 p0q1)).length < 9223372036854775808) && decide (((guS p0q0 p0q1)).length < 9223372036854775808) && decide (((guD p0q0 p0q1)).length < 9223372036854775808) then
  (bif (!(decide (((guS p0q0 p0q1)) = ((guS p0q0 p0q1))) && decide (((guD p0q0 p0q1)) = ((guD p0q0 p0q1))))) then
  some ([.one ((.bool false), false)], [])
  else
  (bif decide (((markL ((guS p0q0 p0q1)) 1)).length < 9223372036854775808) && decide (((markL ((guD p0q0 p0q1)) (markK ((guS p0q0 p0q1)) 1))).length < 9223372036854775808) then
  (bif (decide (((heldA ((markL ((guS p0q0 p0q1)) 1)) ((markL ((guD p0q0 p0q1)) (markK ((guS p0q0 p0q1)) 1))) 1) : Int) < 0)) then
  some ([.one ((.bool false), false)], [])
  else
  (bif (((heldA ((markL ((guS p0q0 p0q1)) 1)) ((markL ((guD p0q0 p0q1)) (markK ((guS p0q0 p0q1)) 1))) 1) : Int) != (markK ((guD p0q0 p0q1)) (markK ((guS p0q0 p0q1)) 1))) then
  some ([.one ((.bool false), false)], [])
  else
  some ([.one ((.bool true), false)], [])))
  else
  none))
  else
  none)
  else
  none)
  else
  none)))
  else
  none)
  else
  none))
  else
  none))
  else
  none))
  else
  none)
  else
  none))
  else
  none)
  else
  none)
  else
  none)
  else
  none)
  else
  none)) := by kernel_rfl
end laws_FnExactGradeUp
theorem laws_FnExactGradeUp.ok_of (hX : ∀ E ∈ laws_FnExactGradeUp.X, CallSpec Try.prog E) (h : ∀ (sh : List Int) (da : List Int), (decide (sh.length < 9223372036854775808) && decide (da.length < 9223372036854775808)) = true → ∃ fuel, runF Try.prog laws_FnExactGradeUp.X laws_FnExactGradeUp.I 0 fuel 3 Try.f3 [.d (.agg [(.ints .i64 sh), (.ints .i64 da)])] = some ([.one ((.bool true), false)], [])) : CallSpec Try.prog laws_FnExactGradeUp.E :=
  callSpec_of (d := 0) hX (by kernel_rfl) laws_FnExactGradeUp.I_ok (by kernel_rfl) (by kernel_rfl) (by kernel_rfl) (fun _ _ _ _ h => by dsimp only [laws_FnExactGradeUp.E] at h; cases h) (fun xs hp => by
    dsimp only [laws_FnExactGradeUp.E] at hp ⊢
    split at hp
    · exact h _ _ hp
    · cases hp)
theorem laws_FnExactGradeUp.ok : CallSpec Try.prog laws_FnExactGradeUp.E := laws_FnExactGradeUp.ok_of (by simp [laws_FnExactGradeUp.X, laws_szArray.ok, laws_toArray.ok, spec_GradeUp.ok, impl_GradeUp_v.ok, laws_eqArray.ok, laws_markArray.ok, laws_heldArray.ok]) fun sh da h => ⟨0, by
  rw [laws_FnExactGradeUp.e]
  simp only [Bool.and_eq_true] at h
  obtain ⟨g0, g1⟩ := h
  by_cases a0 : szA sh da 1048576 < 0
  · rw [decide_eq_true a0]; rfl
  obtain ⟨q0, p0⟩ := szA_le (by omega) (by omega) (of_decide_eq_true g0) (of_decide_eq_true g1) a0
  have z0 := szB_of (xs := sh) (by omega)
  have z1 := szB_of (xs := da) (by omega)
  have hl := gu_len sh da
  obtain ⟨r0a, r0b, r0c, r0d, r0e, r0f⟩ := marks_ok (sh := (guS sh da)) (da := (guD sh da)) (by omega) (by omega)
  have mk := mark2_ok (xs := sh) (ys := da) (by omega) (by omega)
  simp only [decide_eq_false a0, g0, g1, z0, z1, r0a, r0b, r0c, r0d, r0e, r0f, mk, bne_self_eq_false, beq_self_eq_true, decide_true, Bool.and_self, Bool.not_true, cond_true, cond_false]⟩

namespace spec_pick
noncomputable def E : Entry := ⟨27, false, false, fun | [.d (.ints .i64 da), .d (.ints .i64 pl)] => decide (da.length < 9223372036854775808) && decide ((pl : List Int).length ≤ 1000000) && allB pl 0 (((da.length : Nat) : Int) - 1) | _ => false, fun | [.d (.ints .i64 da), .d (.ints .i64 pl)] => ([.one ((.ints .i64 (pkN da pl)), true)], []) | _ => ([], []), fun _ => [], true, fun _ => none⟩
end spec_pick
namespace spec_pick
noncomputable def X : List Entry := []
noncomputable def I : List Inl := [⟨27, Try.f27, ⟨[], [(1000003, [2, 3, 4, 7, 8, 9, 10, 11, 12, 13, 14, 15, 16, 17, 18, 19, 20, 21, 22, 23, 24])], [], [], [], []⟩⟩]
theorem I_ok : ∀ i ∈ I, Try.prog.funcs[i.f]? = some i.fn ∧ (i.fn.name == "runtime.NumGoroutine") = false := by
  intro i hi
  simp only [I, List.mem_cons, List.not_mem_nil, or_false] at hi
  subst hi
  exact ⟨by kernel_rfl, by kernel_rfl⟩
noncomputable abbrev L0 (fuel n : Nat) (s : St) (k : Kont) := lAt Try.prog X I fuel true 0 false 27 (bodyOf Try.f27) [1, 1, 0, 1, 0] n s k
noncomputable abbrev k0  (fuel : Nat) : Kont := (kAt Try.prog X I fuel true 0 false 27 (bodyOf Try.f27) [1, 1, 0, 1, 0] [] (endK Try.prog Try.f27))
noncomputable def t0 (p0 : List Int) (p1 : List Int) (x0q2 : Int) (x0q3 : List Int) : St := ⟨[(.imm (.ints .i64 p0)), (.imm (.ints .i64 p1)), .dead, .dead, .dead, (.all 1000000000 1), (.imm (.int .i64 x0q2)), .dead, .dead, .dead, .dead, .dead, .dead, .dead, .dead, .dead, .dead, .dead, .dead, .dead, .dead, .dead, .dead, .dead, .dead], hOf [(1000000000, (.ints .i64 x0q3))], [], []⟩
theorem e (fuel : Nat) (p0 : List Int) (p1 : List Int) : runF Try.prog X I 0 fuel 27 Try.f27 [.d (.ints .i64 p0), .d (.ints .i64 p1)] =
  L0 fuel fuel (t0 p0 p1 0 ([])) (k0  fuel) := by kernel_rfl
theorem s0 (fuel n0 : Nat) (p0 : List Int) (p1 : List Int) (x0q2 : Int) (x0q3 : List Int) : L0 fuel (n0 + 1) (t0 p0 p1 x0q2 x0q3) (k0  fuel) =
  (bif (decide ((x0q2 : Int) < ((p1.length : Nat) : Int))) then
  (idx x0q2 p1.length).bind fun j9 =>
  (p1[j9]?).bind fun v10 =>
  (idx v10 p0.length).bind fun j11 =>
  (p0[j11]?).bind fun v12 =>
  (bif fits (x0q3.length + ([v12] : List Int).length) 8 then
  L0 fuel n0 (t0 p0 p1 ((IntKind.wrap .i64 (x0q2 + 1))) ((x0q3 ++ [v12]))) (k0  fuel)
  else
  none)
  else
  some ([.one ((.ints .i64 x0q3), true)], [])) := by kernel_rfl
end spec_pick
theorem spec_pick.ok_of (hX : ∀ E ∈ spec_pick.X, CallSpec Try.prog E) (h : ∀ (da : List Int) (pl : List Int), (decide (da.length < 9223372036854775808) && decide ((pl : List Int).length ≤ 1000000) && allB pl 0 (((da.length : Nat) : Int) - 1)) = true → ∃ fuel, runF Try.prog spec_pick.X spec_pick.I 0 fuel 27 Try.f27 [.d (.ints .i64 da), .d (.ints .i64 pl)] = some ([.one ((.ints .i64 (pkN da pl)), true)], [])) : CallSpec Try.prog spec_pick.E :=
  callSpec_of (d := 0) hX (by kernel_rfl) spec_pick.I_ok (by kernel_rfl) (by kernel_rfl) (by kernel_rfl) (fun _ _ _ _ h => by dsimp only [spec_pick.E] at h; cases h) (fun xs hp => by
    dsimp only [spec_pick.E] at hp ⊢
    split at hp
    · exact h _ _ hp
    · cases hp)
theorem spec_pick.ok : CallSpec Try.prog spec_pick.E := spec_pick.ok_of (by simp [spec_pick.X]) fun da pl h => by
  obtain ⟨F, hF⟩ : ∃ F : Nat, pl.length < F := ⟨pl.length + 1, by omega⟩
  refine ⟨F, ?_⟩
  simp only [Bool.and_eq_true, decide_eq_true_eq] at h
  obtain ⟨⟨h1, h2⟩, h3⟩ := h
  rw [spec_pick.e]
  by_cases h60 : True
  · refine run_loop (N := pl.length) (fun n j out => spec_pick.L0 F n (spec_pick.t0 da pl (j : Int) out) (spec_pick.k0 F)) (fun j out => out = tab j fun i => da.getD (pl.getD i 0).toNat 0) ?_ ?_ F 0 [] (by omega) (by omega) rfl
    · rintro n out rfl
      rw [spec_pick.s0, dge (by omega), cond_false]
      rfl
    · rintro n j out hj rfl
      have hp := allB_inv h3 hj
      obtain ⟨p, hpe⟩ : ∃ p : Nat, pl.getD j 0 = p := ⟨(pl.getD j 0).toNat, by omega⟩
      have hpl : p < da.length := by omega
      rw [spec_pick.s0, dlt hj, cond_true, idx_nat hj, w1 (by omega)]
      simp only [Option.bind_some, getD_get hj, hpe]
      rw [idx_nat hpl]
      simp only [Option.bind_some, getD_get hpl]
      rw [fitsOk (by simp only [tab_length, List.length_cons, List.length_nil]; omega), cond_true]
      exact ⟨_, by rw [tab_succ, hpe, Int.toNat_natCast], rfl⟩
  · exact absurd trivial h60

namespace spec_SortArray
noncomputable def E : Entry := ⟨12, false, false, fun | [.d (.agg [(.ints .i64 sh), (.ints .i64 da)])] => decide (sh.length < 9223372036854775808) && decide (da.length < 9223372036854775808) | _ => false, fun | [.d (.agg [(.ints .i64 sh), (.ints .i64 da)])] => ([.agg [((.ints .i64 (soS sh da)), true), ((.ints .i64 (soD sh da)), true)]], []) | _ => ([], []), fun _ => [], true, fun _ => none⟩
end spec_SortArray
namespace spec_SortArray
noncomputable def X : List Entry := [spec_isVector.E, spec_grade.E, spec_pick.E, spec_vector.E]
noncomputable def I : List Inl := [⟨12, Try.f12, ⟨[11, 12, 13], [], [], [(3, [0, 2, 1, 3, 4, 5, 6, 7])], [], []⟩⟩]
theorem I_ok : ∀ i ∈ I, Try.prog.funcs[i.f]? = some i.fn ∧ (i.fn.name == "runtime.NumGoroutine") = false := by
  intro i hi
  simp only [I, List.mem_cons, List.not_mem_nil, or_false] at hi
  subst hi
  exact ⟨by kernel_rfl, by kernel_rfl⟩
theorem e (fuel : Nat) (p0q0 : List Int) (p0q1 : List Int) : runF Try.prog X I 0 fuel 12 Try.f12 [.d (.agg [(.ints .i64 p0q0), (.ints .i64 p0q1)])] =
  (bif decide (p0q0.length < 9223372036854775808) && decide (p0q1.length < 9223372036854775808) then
  (bif (!(vcB p0q0 p0q1)) then
  some ([.agg [((.ints .i64 []), true), ((.ints .i64 []), true)]], [])
  else
  (bif decide ((p0q1 : List Int).length ≤ 60) then
  (bif decide (p0q1.length < 9223372036854775808) && decide ((((grN p0q1 (p0q1 : List Int).length)) : List Int).length ≤ 1000000) && allB ((grN p0q1 (p0q1 : List Int).length)) 0 (((p0q1.length : Nat) : Int) - 1) then
  (bif szB ((pkN p0q1 ((grN p0q1 (p0q1 : List Int).length)))) then
  some ([.agg [((.ints .i64 [((((pkN p0q1 ((grN p0q1 (p0q1 : List Int).length)))).length : Nat) : Int)]), true), ((.ints .i64 ((pkN p0q1 ((grN p0q1 (p0q1 : List Int).length))))), true)]], [])
  else
  none)
  else
  none)
  else
  none))
  else
  none) := by kernel_rfl
end spec_SortArray
theorem spec_SortArray.ok_of (hX : ∀ E ∈ spec_SortArray.X, CallSpec Try.prog E) (h : ∀ (sh : List Int) (da : List Int), (decide (sh.length < 9223372036854775808) && decide (da.length < 9223372036854775808)) = true → ∃ fuel, runF Try.prog spec_SortArray.X spec_SortArray.I 0 fuel 12 Try.f12 [.d (.agg [(.ints .i64 sh), (.ints .i64 da)])] = some ([.agg [((.ints .i64 (soS sh da)), true), ((.ints .i64 (soD sh da)), true)]], [])) : CallSpec Try.prog spec_SortArray.E :=
  callSpec_of (d := 0) hX (by kernel_rfl) spec_SortArray.I_ok (by kernel_rfl) (by kernel_rfl) (by kernel_rfl) (fun _ _ _ _ h => by dsimp only [spec_SortArray.E] at h; cases h) (fun xs hp => by
    dsimp only [spec_SortArray.E] at hp ⊢
    split at hp
    · exact h _ _ hp
    · cases hp)
theorem spec_SortArray.ok : CallSpec Try.prog spec_SortArray.E := spec_SortArray.ok_of (by simp [spec_SortArray.X, spec_isVector.ok, spec_grade.ok, spec_pick.ok, spec_vector.ok]) fun sh da h => ⟨0, by
  rw [spec_SortArray.e, h]
  simp only [Bool.and_eq_true] at h
  unfold soS soD
  cases hb : vcB sh da with
  | false => rfl
  | true =>
    obtain ⟨_, _, hl, _⟩ := vcB_inv hb
    have hg := grN_length da da.length
    have hs := so_len da
    rw [decide_eq_true hl, h.2, decide_eq_true (p := (grN da da.length).length ≤ 1000000) (by omega), gr_in, show pkN da (grN da da.length) = soL' da from rfl, szB_of (xs := soL' da) (by omega), hs]
    rfl⟩

namespace impl_copyList
noncomputable def E : Entry := ⟨34, false, false, fun | [.d (.ints .i64 xs)] => szB xs | _ => false, fun | [.d (.ints .i64 xs)] => ([.one ((.ints .i64 xs), true)], []) | _ => ([], []), fun _ => [], true, fun _ => none⟩
end impl_copyList
namespace impl_copyList
noncomputable def X : List Entry := []
noncomputable def I : List Inl := [⟨34, Try.f34, ⟨[], [], [], [], [], []⟩⟩]
theorem I_ok : ∀ i ∈ I, Try.prog.funcs[i.f]? = some i.fn ∧ (i.fn.name == "runtime.NumGoroutine") = false := by
  intro i hi
  simp only [I, List.mem_cons, List.not_mem_nil, or_false] at hi
  subst hi
  exact ⟨by kernel_rfl, by kernel_rfl⟩
theorem e (fuel : Nat) (p0 : List Int) : runF Try.prog X I 0 fuel 34 Try.f34 [.d (.ints .i64 p0)] =
  (bif decide (0 ≤ (((p0.length : Nat) : Int) : Int)) && decide ((((p0.length : Nat) : Int) : Int) ≤ ((p0.length : Nat) : Int)) && decide ((((p0.length : Nat) : Int) : Int) ≤ 1152921504606846976) && decide (((8 : Nat) : Int) * ((p0.length : Nat) : Int) ≤ 281474976710656) then
  some ([.one ((.ints .i64 (copyL (List.replicate (((p0.length : Nat) : Int)).toNat (0 : Int)) 0 (List.replicate (((p0.length : Nat) : Int)).toNat (0 : Int)).length p0)), true)], [])
  else
  none) := by kernel_rfl
end impl_copyList
theorem impl_copyList.ok_of (hX : ∀ E ∈ impl_copyList.X, CallSpec Try.prog E) (h : ∀ (xs : List Int), (szB xs) = true → ∃ fuel, runF Try.prog impl_copyList.X impl_copyList.I 0 fuel 34 Try.f34 [.d (.ints .i64 xs)] = some ([.one ((.ints .i64 xs), true)], [])) : CallSpec Try.prog impl_copyList.E :=
  callSpec_of (d := 0) hX (by kernel_rfl) impl_copyList.I_ok (by kernel_rfl) (by kernel_rfl) (by kernel_rfl) (fun _ _ _ _ h => by dsimp only [impl_copyList.E] at h; cases h) (fun xs hp => by
    dsimp only [impl_copyList.E] at hp ⊢
    split at hp
    · exact h _ hp
    · cases hp)
theorem impl_copyList.ok : CallSpec Try.prog impl_copyList.E := impl_copyList.ok_of (by simp [impl_copyList.X]) fun xs h => ⟨0, by
  have hx := szB_le h
  rw [impl_copyList.e, mkOk (by omega) (by omega)]
  simp only [cond_true, Int.toNat_natCast, copyL_all]⟩

namespace impl_PickItems
noncomputable def E : Entry := ⟨28, false, false, fun | [.d (.agg [(.ints .i64 sh), (.ints .i64 da)]), .d (.agg [(.ints .i64 s2), (.ints .i64 d2)])] => decide (sh.length < 9223372036854775808) && decide (da.length < 9223372036854775808) && decide (s2.length < 9223372036854775808) && decide (d2.length < 9223372036854775808) | _ => false, fun | [.d (.agg [(.ints .i64 sh), (.ints .i64 da)]), .d (.agg [(.ints .i64 s2), (.ints .i64 d2)])] => ([.agg [((.ints .i64 (pkS sh da s2 d2)), true), ((.ints .i64 (pkD sh da s2 d2)), true)], .one ((.bool (pkB sh da s2 d2)), false)], []) | _ => ([], []), fun _ => [], true, fun _ => none⟩
end impl_PickItems
namespace impl_PickItems
noncomputable def X : List Entry := [impl_isVector.E, impl_ValidArray.E, impl_copyList.E]
noncomputable def I : List Inl := [⟨28, Try.f28, ⟨[51], [(1000005, [0, 1, 5, 7, 8, 9, 10, 11, 12, 13, 14, 15, 16, 17, 18, 19, 20, 21, 22, 26, 27, 28, 29, 30, 31, 32, 33, 34, 35, 36, 37, 38, 39, 40, 41, 42, 43, 44, 45, 46, 47, 48, 49, 50, 51, 52, 53])], [], [], [], []⟩⟩]
theorem I_ok : ∀ i ∈ I, Try.prog.funcs[i.f]? = some i.fn ∧ (i.fn.name == "runtime.NumGoroutine") = false := by
  intro i hi
  simp only [I, List.mem_cons, List.not_mem_nil, or_false] at hi
  subst hi
  exact ⟨by kernel_rfl, by kernel_rfl⟩
noncomputable abbrev L0 (fuel n : Nat) (s : St) (k : Kont) := lAt Try.prog X I fuel true 0 false 28 (bodyOf Try.f28) [1, 1, 1, 0, 1, 0] n s k
noncomputable abbrev k0  (fuel : Nat) : Kont := (kAt Try.prog X I fuel true 0 false 28 (bodyOf Try.f28) [1, 1, 1, 0, 1, 0] [] (endK Try.prog Try.f28))
noncomputable def t0 (p1q1 : List Int) (p0q0 : List Int) (p0q1 : List Int) (p1q0 : List Int) (x0q2 : Int) (x0q7 : List Int) : St := ⟨[.dead, .dead, (.ptr 1000000000 0 0), (.ptr 1000000001 0 0), (.ptr 1000000002 0 0), .dead, (.all 1000000003 1), .dead, .dead, .dead, .dead, .dead, .dead, .dead, .dead, .dead, .dead, .dead, .dead, .dead, .dead, .dead, .dead, (.imm (.ints .i64 p1q1)), (.imm (.int .i64 ((p1q1.length : Nat) : Int))), (.imm (.int .i64 x0q2)), .dead, .dead, .dead, .dead, .dead, .dead, .dead, .dead, .dead, .dead, .dead, .dead, .dead, .dead, .dead, .dead, .dead, .dead, .dead, .dead, .dead, .dead, .dead, .dead, .dead, .dead, .dead, .dead], hOf [(1000000000, (.box [(.imm (.ints .i64 p0q0)), (.imm (.ints .i64 p0q1))])), (1000000001, (.box [(.imm (.ints .i64 p1q0)), (.imm (.ints .i64 p1q1))])), (1000000002, (.box [(.imm .nils), (.imm .nils)])), (1000000003, (.ints .i64 x0q7))], [], []⟩
theorem e (fuel : Nat) (p0q0 : List Int) (p0q1 : List Int) (p1q0 : List Int) (p1q1 : List Int) : runF Try.prog X I 0 fuel 28 Try.f28 [.d (.agg [(.ints .i64 p0q0), (.ints .i64 p0q1)]), .d (.agg [(.ints .i64 p1q0), (.ints .i64 p1q1)])] =
  (bif decide (p0q0.length < 9223372036854775808) && decide (p0q1.length < 9223372036854775808) then
  (bif (!(vcB p0q0 p0q1)) then
  some ([.agg [((.ints .i64 []), true), ((.ints .i64 []), true)], .one ((.bool false), false)], [])
  else
  (bif decide (p1q0.length < 9223372036854775808) && decide (p1q1.length < 9223372036854775808) then
  (bif (!(validA p1q0 p1q1)) then
  some ([.agg [((.ints .i64 []), true), ((.ints .i64 []), true)], .one ((.bool false), false)], [])
  else
  (bif decide (0 ≤ (((p1q1.length : Nat) : Int) : Int)) && decide ((((p1q1.length : Nat) : Int) : Int) ≤ ((p1q1.length : Nat) : Int)) && decide ((((p1q1.length : Nat) : Int) : Int) ≤ 1152921504606846976) && decide (((8 : Nat) : Int) * ((p1q1.length : Nat) : Int) ≤ 281474976710656) then
  L0 fuel fuel (t0 p1q1 p0q0 p0q1 p1q0 0 ((List.replicate (((p1q1.length : Nat) : Int)).toNat (0 : Int)))) (k0  fuel)
  else
  none))
  else
  none))
  else
  none) := by kernel_rfl
theorem s0 (fuel n0 : Nat) (p1q1 : List Int) (p0q0 : List Int) (p0q1 : List Int) (p1q0 : List Int) (x0q2 : Int) (x0q7 : List Int) : L0 fuel (n0 + 1) (t0 p1q1 p0q0 p0q1 p1q0 x0q2 x0q7) (k0  fuel) =
  (bif (decide ((x0q2 : Int) < ((p1q1.length : Nat) : Int))) then
  (idx x0q2 p1q1.length).bind fun j11 =>
  (p1q1[j11]?).bind fun v12 =>
  (bif (decide ((v12 : Int) < 0)) then
  some ([.agg [((.ints .i64 []), true), ((.ints .i64 []), true)], .one ((.bool false), false)], [])
  else
  (bif (decide ((v12 : Int) ≥ ((p0q1.length : Nat) : Int))) then
  some ([.agg [((.ints .i64 []), true), ((.ints .i64 []), true)], .one ((.bool false), false)], [])
  else
  (idx v12 p0q1.length).bind fun j13 =>
  (p0q1[j13]?).bind fun v14 =>
  (idx x0q2 x0q7.length).bind fun j15 =>
  (bif decide (j15 < x0q7.length) then
  L0 fuel n0 (t0 p1q1 p0q0 p0q1 p1q0 ((IntKind.wrap .i64 (x0q2 + 1))) ((x0q7.set j15 v14))) (k0  fuel)
  else
  none)))
  else
  (bif szB p1q0 then
  some ([.agg [((.ints .i64 p1q0), true), ((.ints .i64 x0q7), true)], .one ((.bool true), false)], [])
  else
  none)) := by kernel_rfl
end impl_PickItems
theorem impl_PickItems.ok_of (hX : ∀ E ∈ impl_PickItems.X, CallSpec Try.prog E) (h : ∀ (sh : List Int) (da : List Int) (s2 : List Int) (d2 : List Int), (decide (sh.length < 9223372036854775808) && decide (da.length < 9223372036854775808) && decide (s2.length < 9223372036854775808) && decide (d2.length < 9223372036854775808)) = true → ∃ fuel, runF Try.prog impl_PickItems.X impl_PickItems.I 0 fuel 28 Try.f28 [.d (.agg [(.ints .i64 sh), (.ints .i64 da)]), .d (.agg [(.ints .i64 s2), (.ints .i64 d2)])] = some ([.agg [((.ints .i64 (pkS sh da s2 d2)), true), ((.ints .i64 (pkD sh da s2 d2)), true)], .one ((.bool (pkB sh da s2 d2)), false)], [])) : CallSpec Try.prog impl_PickItems.E :=
  callSpec_of (d := 0) hX (by kernel_rfl) impl_PickItems.I_ok (by kernel_rfl) (by kernel_rfl) (by kernel_rfl) (fun _ _ _ _ h => by dsimp only [impl_PickItems.E] at h; cases h) (fun xs hp => by
    dsimp only [impl_PickItems.E] at hp ⊢
    split at hp
    · exact h _ _ _ _ hp
    · cases hp)
theorem impl_PickItems.ok : CallSpec Try.prog impl_PickItems.E := impl_PickItems.ok_of (by simp [impl_PickItems.X, impl_isVector.ok, impl_ValidArray.ok, impl_copyList.ok]) fun sh da s2 d2 h => by
  obtain ⟨F, hF⟩ : ∃ F : Nat, d2.length < F := ⟨d2.length + 1, by omega⟩
  refine ⟨F, ?_⟩
  simp only [Bool.and_eq_true] at h
  obtain ⟨⟨⟨h1, h2⟩, h3⟩, h4⟩ := h
  rw [impl_PickItems.e, h1, h2, h3, h4]
  unfold pkS pkD
  cases hb : vcB sh da with
  | false =>
    have : pkB sh da s2 d2 = false := by simp only [pkB, hb, Bool.false_and]
    rw [this]; rfl
  | true =>
    cases hv : validA s2 d2 with
    | false =>
      have : pkB sh da s2 d2 = false := by simp only [pkB, hb, hv, Bool.false_and, Bool.and_false]
      rw [this]; rfl
    | true =>
      obtain ⟨_, _, hl, _⟩ := vcB_inv hb
      have hl2 := validA_len hv
      have hN := pkN_length da d2
      rw [mkOk (by omega) (by omega), Int.toNat_natCast]
      simp only [cond_true, Bool.and_self, Bool.not_true, cond_false]
      have hK : pkB sh da s2 d2 = allB d2 0 (((da.length : Nat) : Int) - 1) := by simp only [pkB, hb, hv, Bool.true_and]
      refine cnt_loop (N := d2.length) (fun n j out => impl_PickItems.L0 F n (impl_PickItems.t0 d2 sh da s2 (j : Int) out) (impl_PickItems.k0 F)) (fun j out => out = part (pkN da d2) j ∧ ∀ i, i < j → 0 ≤ d2.getD i 0 ∧ d2.getD i 0 ≤ ((da.length : Nat) : Int) - 1) ?_ ?_ F 0 _ (by omega) (by omega) ⟨by rw [part_zero, hN], fun i hi => absurd hi (by omega)⟩
      · rintro n out ⟨hI, hc⟩
        have ha : allB d2 0 (((da.length : Nat) : Int) - 1) = true := allB_iff.2 fun v hv => by
          obtain ⟨i, hi, rfl⟩ := List.getElem_of_mem hv
          have := hc i hi
          simpa [hi] using this
        have hall := part_all (pkN da d2)
        rw [hN] at hall
        rw [hall] at hI
        rw [impl_PickItems.s0, dge (by omega), cond_false, szB_of (xs := s2) (by omega), hI, hK, ha]
        rfl
      · rintro n j out hj ⟨hI, hc⟩
        have hol : out.length = d2.length := by rw [hI, part_length (by omega), hN]
        rw [impl_PickItems.s0, dlt hj, cond_true, idx_nat hj, w1 (by omega)]
        simp only [Option.bind_some, getD_get hj]
        have hno : (¬ (0 ≤ d2.getD j 0 ∧ d2.getD j 0 ≤ ((da.length : Nat) : Int) - 1)) → pkB sh da s2 d2 = false := by
          intro hn
          rw [hK, Bool.eq_false_iff]
          exact fun ha => hn (allB_inv ha hj)
        by_cases c1 : d2.getD j 0 < 0
        · refine .inl ?_
          rw [decide_eq_true c1, hno (by omega)]; rfl
        · by_cases c2 : d2.getD j 0 ≥ ((da.length : Nat) : Int)
          · refine .inl ?_
            rw [decide_eq_false c1, decide_eq_true c2, hno (by omega)]; rfl
          · refine .inr ⟨out.set j (da.getD (d2.getD j 0).toNat 0), ⟨?_, fun i hi => ?_⟩, ?_⟩
            · rw [hI, part_set (by omega)]
              simp only [pkN]
              rw [tab_getD hj]
            · by_cases h1 : i = j
              · subst h1; omega
              · exact hc i (by omega)
            · obtain ⟨p, hpe⟩ : ∃ p : Nat, d2.getD j 0 = p := ⟨(d2.getD j 0).toNat, by omega⟩
              have hpl : p < da.length := by omega
              rw [decide_eq_false c1, decide_eq_false c2, hpe, idx_nat hpl]
              simp only [cond_false, Option.bind_some, getD_get hpl]
              rw [idx_nat (by omega)]
              simp only [Option.bind_some]
              rw [decide_eq_true (by omega), cond_true, Int.toNat_natCast]

namespace impl_SortArray_v
noncomputable def E : Entry := ⟨13, false, false, fun | [.d (.agg [(.ints .i64 sh), (.ints .i64 da)])] => decide (sh.length < 9223372036854775808) && decide (da.length < 9223372036854775808) | _ => false, fun | [.d (.agg [(.ints .i64 sh), (.ints .i64 da)])] => ([.agg [((.ints .i64 (soS sh da)), true), ((.ints .i64 (soD sh da)), true)]], []) | _ => ([], []), fun _ => [], true, fun _ => none⟩
end impl_SortArray_v
namespace impl_SortArray_v
noncomputable def X : List Entry := [impl_GradeUp_v.E, impl_PickItems.E]
noncomputable def I : List Inl := [⟨13, Try.f13, ⟨[8, 9], [(1, [0, 3, 4, 5, 6, 7, 8, 9, 10, 11, 12])], [], [], [], []⟩⟩]
theorem I_ok : ∀ i ∈ I, Try.prog.funcs[i.f]? = some i.fn ∧ (i.fn.name == "runtime.NumGoroutine") = false := by
  intro i hi
  simp only [I, List.mem_cons, List.not_mem_nil, or_false] at hi
  subst hi
  exact ⟨by kernel_rfl, by kernel_rfl⟩
theorem e (fuel : Nat) (p0q0 : List Int) (p0q1 : List Int) : runF Try.prog X I 0 fuel 13 Try.f13 [.d (.agg [(.ints .i64 p0q0), (.ints .i64 p0q1)])] =
  (bif decide (p0q0.length < 9223372036854775808) && decide (p0q1.length < 9223372036854775808) then
  (bif decide (p0q0.length < 9223372036854775808) && decide (p0q1.length < 9223372036854775808) && decide (((guS p0q0 p0q1)).length < 9223372036854775808) && decide (((guD p0q0 p0q1)).length < 9223372036854775808) then
  some ([.agg [((.ints .i64 (pkS p0q0 p0q1 ((guS p0q0 p0q1)) ((guD p0q0 p0q1)))), true), ((.ints .i64 (pkD p0q0 p0q1 ((guS p0q0 p0q1)) ((guD p0q0 p0q1)))), true)]], [])
  else
  none)
  else
  none) := by kernel_rfl
end impl_SortArray_v
theorem impl_SortArray_v.ok_of (hX : ∀ E ∈ impl_SortArray_v.X, CallSpec Try.prog E) (h : ∀ (sh : List Int) (da : List Int), (decide (sh.length < 9223372036854775808) && decide (da.length < 9223372036854775808)) = true → ∃ fuel, runF Try.prog impl_SortArray_v.X impl_SortArray_v.I 0 fuel 13 Try.f13 [.d (.agg [(.ints .i64 sh), (.ints .i64 da)])] = some ([.agg [((.ints .i64 (soS sh da)), true), ((.ints .i64 (soD sh da)), true)]], [])) : CallSpec Try.prog impl_SortArray_v.E :=
  callSpec_of (d := 0) hX (by kernel_rfl) impl_SortArray_v.I_ok (by kernel_rfl) (by kernel_rfl) (by kernel_rfl) (fun _ _ _ _ h => by dsimp only [impl_SortArray_v.E] at h; cases h) (fun xs hp => by
    dsimp only [impl_SortArray_v.E] at hp ⊢
    split at hp
    · exact h _ _ hp
    · cases hp)
theorem impl_SortArray_v.ok : CallSpec Try.prog impl_SortArray_v.E := impl_SortArray_v.ok_of (by simp [impl_SortArray_v.X, impl_GradeUp_v.ok, impl_PickItems.ok]) fun sh da h => ⟨0, by
  rw [impl_SortArray_v.e, h]
  simp only [Bool.and_eq_true] at h
  unfold soS soD guS guD
  cases hb : vcB sh da with
  | false =>
    have e : pkB sh da [] [] = false := by simp only [pkB, hb, Bool.false_and]
    have g0 : decide (([] : List Int).length < 9223372036854775808) = true := rfl
    simp only [cond_false, pkS, pkD, e, h.1, h.2, g0, Bool.and_self, cond_true]
  | true =>
    obtain ⟨_, _, hl, _⟩ := vcB_inv hb
    obtain ⟨p1, p2, p3⟩ := gu_pick hb
    have hg := grN_length da da.length
    have g1 : decide (([((da.length : Nat) : Int)] : List Int).length < 9223372036854775808) = true := rfl
    have g2 := lt_of (xs := grN da da.length) (by omega)
    simp only [cond_true, p2, p3, h.1, h.2, g1, g2, Bool.and_self]⟩

namespace laws_FnExactSortArray
noncomputable def E : Entry := ⟨4, true, false, fun | [.d (.agg [(.ints .i64 sh), (.ints .i64 da)])] => decide (sh.length < 9223372036854775808) && decide (da.length < 9223372036854775808) | _ => false, fun | [.d (.agg [(.ints .i64 sh), (.ints .i64 da)])] => ([.one ((.bool true), false)], []) | _ => ([], []), fun _ => [], false, fun _ => none⟩
end laws_FnExactSortArray
namespace laws_FnExactSortArray
noncomputable def X : List Entry := [laws_szArray.E, laws_toArray.E, spec_SortArray.E, impl_SortArray_v.E, laws_eqArray.E, laws_markArray.E, laws_heldArray.E]
noncomputable def I : List Inl := [⟨4, Try.f4, ⟨[17, 18, 20, 22, 29, 55, 56], [(7, [0, 2, 3, 6, 7, 8, 9, 10, 11, 12, 13, 14, 15, 16, 17, 18, 19, 20, 21, 22, 23, 24, 25, 26, 27, 28, 29, 30, 31, 32, 33, 34, 35, 36, 37, 38, 39, 40, 41, 42, 43, 44, 45, 46, 47, 48, 49, 50, 51, 52, 53, 54, 55, 56, 57, 58, 59, 60, 61, 62, 63, 64, 65, 66, 67, 68]), (24, [0, 2, 3, 5, 7, 9, 10, 11, 12, 13, 14, 15, 16, 17, 18, 19, 20, 21, 22, 23, 24, 25, 26, 27, 28, 29, 30, 31, 32, 33, 34, 35, 36, 37, 38, 39, 40, 41, 42, 43, 44, 45, 46, 47, 48, 49, 50, 51, 52, 53, 54, 55, 56, 57, 58, 59, 60, 61, 62, 63, 64, 65, 66, 67, 68])], [], [], [], []⟩⟩]
theorem I_ok : ∀ i ∈ I, Try.prog.funcs[i.f]? = some i.fn ∧ (i.fn.name == "runtime.NumGoroutine") = false := by
  intro i hi
  simp only [I, List.mem_cons, List.not_mem_nil, or_false] at hi
  subst hi
  exact ⟨by kernel_rfl, by kernel_rfl⟩
theorem e (fuel : Nat) (p0q0 : List Int) (p0q1 : List Int) : runF Try.prog X I 0 fuel 4 Try.f4 [.d (.agg [(.ints .i64 p0q0), (.ints .i64 p0q1)])] =
  (bif (decide (((szA p0q0 p0q1 1048576) : Int) < 0)) then
  some ([.one ((.bool true), false)], [])
  else
  (bif szB p0q0 && szB p0q1 then
  (bif decide (p0q0.length < 9223372036854775808) && decide (p0q1.length < 9223372036854775808) then
  (bif szB p0q0 && szB p0q1 then
  (bif decide (p0q0.length < 9223372036854775808) && decide (p0q1.length < 9223372036854775808) then
  (bif decide (((soS p0q0 p0q1)).length < 9223372036854775808) && decide (((soD p0q0 p0q1)).length < 9223372036854775808) && decide (((soS p0q0 p0q1)).length < 9223372036854775808) && decide (((soD p0q0 p0q1)).length < 9223372036854775808) then
  (bif (!(decide (((soS p0q0 p0q1)) = ((soS p0q0 p0q1))) && decide (((soD p0q0 p0q1)) = ((soD p0q0 p0q1))))) then
  some ([.one ((.bool false), false)], [])
  else
  (bif szB p0q0 && szB p0q1 then
  (bif decide (p0q0.length < 9223372036854775808) && decide (p0q1.length < 9223372036854775808) && decide (p0q0.length < 9223372036854775808) && decide (p0q1.length < 9223372036854775808) then
  (bif (!(decide (p0q0 = p0q0) && decide (p0q1 = p0q1))) then
  some ([.one ((.bool false), false)], [])
  else
  (bif decide (p0q0.length < 9223372036854775808) && decide (p0q1.length < 9223372036854775808) then
  (bif (decide (((markK p0q1 (markK p0q0 1)) : Int) < 0)) then
  some ([.one ((.bool false), false)], [])
  else
  (bif decide (((soS p0q0 p0q1)).length < 9223372036854775808) && decide (((soD p0q0 p0q1)).length < 9223372036854775808) && decide (((soS p0q0 p0q1)).length < 9223372036854775808) && decide (((soD p0q0 p0q1)).length < 9223372036854775808) then
  (bif (!(decide (((soS p0q0 p0q1)) = ((soS p0q0 p0q1))) && decide (((soD p0q0 p0q1)) = ((soD p0q0 p0q1))))) then
  some ([.one ((.bool false), false)], [])
  else
  (bif decide (((soS p0q0 p0q1)).length < 9223372036854775808) && decide (((soD p0q0 p0q1)).length < 9223372036854775808) then
  (bif decide (((markL ((soS p0q0 p0q1)) 1)).length < 9223372036854775808) && decide (((markL ((soD p0q0 p0q1)) (markK ((soS p0q0 p0q1)) 1))).length < 9223372036854775808) then
  (bif (decide (((heldA ((markL ((soS p0q0 p0q1)) 1)) ((markL ((soD p0q0 p0q1)) (markK ((soS p0q0 p0q1)) 1))) 1) : Int) < 0)) then
  some ([.one ((.bool false), false)], [])
  else
  (bif (((heldA ((markL ((soS p0q0 p0q1)) 1)) ((markL ((soD p0q0 p0q1)) (markK ((soS p0q0 p0q1)) 1))) 1) : Int) != (markK ((soD p0q0 p0q1)) (markK ((soS p0q0 p0q1)) 1))) then
  some ([.one ((.bool false), false)], [])
  else
  (bif szB p0q0 && szB p0q1 then
  (bif decide (p0q0.length < 9223372036854775808) && decide (p0q1.length < 9223372036854775808) then
  (bif decide (((soS p0q0 p0q1)).length < 9223372036854775808) && decide (((soD p0q0 p0q1)).length < 9223372036854775808) && decide (((soS p0q0 p0q1)).length < 9223372036854775808) && decide (((soD p0q0 p0q1)).length < 9223372036854775808) then
  (bif (!(decide (((soS p0q0 p0q1)) = ((soS p0q0 p0q1))) && decide (((soD p0q0 p0q1)) = ((soD p0q0 p0q1))))) then
  some ([.one ((.bool false), false)], [])
  else
  (bif decide (((markL ((soS p0q0 p0q1)) 1)).length < 9223372036854775808) && decide (((markL ((soD p0q0 p0q1)) (markK ((soS p0q0 p0q1)) 1))).length < 9223372036854775808) then
  (bif (decide (((heldA ((markL ((soS p0q0 p0q1)) 1)) ((markL ((soD p0q0 p0q1)) (markK ((soS p0q0 p0q1)) 1))) 1) : Int) < 0)) then
  some ([.one ((.bool false), false)], [])
  else
  (bif (((heldA ((markL ((soS p0q0 p0q1)) 1)) ((markL ((soD p0q0 p0q1)) (markK ((soS p0q0 p0q1)) 1))) 1) : Int) != (markK ((soD p0q0 p0q1)) (markK ((soS p0q0 p0q1)) 1))) then
  some ([.one ((.bool false), false)], [])
  else
  some ([.one ((.bool true), false)], [])))
  else
  none))
  else
  none)
  else
  none)
  else
  none)))
  else
  none)
  else
  none))
  else
  none))
  else
  none))
  else
  none)
  else
  none))
  else
  none)
  else
  none)
  else
  none)
  else
  none)
  else
  none)) := by kernel_rfl
end laws_FnExactSortArray
theorem laws_FnExactSortArray.ok_of (hX : ∀ E ∈ laws_FnExactSortArray.X, CallSpec Try.prog E) (h : ∀ (sh : List Int) (da : List Int), (decide (sh.length < 9223372036854775808) && decide (da.length < 9223372036854775808)) = true → ∃ fuel, runF Try.prog laws_FnExactSortArray.X laws_FnExactSortArray.I 0 fuel 4 Try.f4 [.d (.agg [(.ints .i64 sh), (.ints .i64 da)])] = some ([.one ((.bool true), false)], [])) : CallSpec Try.prog laws_FnExactSortArray.E :=
  callSpec_of (d := 0) hX (by kernel_rfl) laws_FnExactSortArray.I_ok (by kernel_rfl) (by kernel_rfl) (by kernel_rfl) (fun _ _ _ _ h => by dsimp only [laws_FnExactSortArray.E] at h; cases h) (fun xs hp => by
    dsimp only [laws_FnExactSortArray.E] at hp ⊢
    split at hp
    · exact h _ _ hp
    · cases hp)
theorem laws_FnExactSortArray.ok : CallSpec Try.prog laws_FnExactSortArray.E := laws_FnExactSortArray.ok_of (by simp [laws_FnExactSortArray.X, laws_szArray.ok, laws_toArray.ok, spec_SortArray.ok, impl_SortArray_v.ok, laws_eqArray.ok, laws_markArray.ok, laws_heldArray.ok]) fun sh da h => ⟨0, by
  rw [laws_FnExactSortArray.e]
  simp only [Bool.and_eq_true] at h
  obtain ⟨g0, g1⟩ := h
  by_cases a0 : szA sh da 1048576 < 0
  · rw [decide_eq_true a0]; rfl
  obtain ⟨q0, p0⟩ := szA_le (by omega) (by omega) (of_decide_eq_true g0) (of_decide_eq_true g1) a0
  have z0 := szB_of (xs := sh) (by omega)
  have z1 := szB_of (xs := da) (by omega)
  have hl := sot_len sh da
  obtain ⟨r0a, r0b, r0c, r0d, r0e, r0f⟩ := marks_ok (sh := (soS sh da)) (da := (soD sh da)) (by omega) (by omega)
  have mk := mark2_ok (xs := sh) (ys := da) (by omega) (by omega)
  simp only [decide_eq_false a0, g0, g1, z0, z1, r0a, r0b, r0c, r0d, r0e, r0f, mk, bne_self_eq_false, beq_self_eq_true, decide_true, Bool.and_self, Bool.not_true, cond_true, cond_false]⟩

end Go.Ab

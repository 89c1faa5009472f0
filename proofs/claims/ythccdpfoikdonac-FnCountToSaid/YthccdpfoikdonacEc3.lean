import Derived.Test.YthccdpfoikdonacEc2
import Derived.Test.YthccdpfoikdonacProg
import Derived.Test.YthccdpfoikdonacChecked
open Go Go.Ab Go.Proofs
set_option maxRecDepth 100000
set_option linter.unusedVariables false
set_option linter.unusedSimpArgs false
namespace Go.Ab
namespace slices_symMergeCmpFunc_int_u6
noncomputable def E : Entry := ⟨68, false, true, fun | [.rows true [(.i64, xs)], .d (.int .i64 a), .d (.int .i64 m), .d (.int .i64 b), .d (.fn false dom G)] => decide ((xs : List Int).length ≤ 60) && domA dom xs && upW G xs && decide (0 ≤ a) && decide (a < m) && decide (m < b) && decide (b ≤ (((xs : List Int).length : Nat) : Int)) && decide (b - a ≤ 64) | _ => false, fun | [.rows true [(.i64, xs)], .d (.int .i64 a), .d (.int .i64 m), .d (.int .i64 b), .d (.fn false dom G)] => ([], [[(.ints .i64 xs)]]) | _ => ([], []), fun _ => [], false, fun _ => none⟩
end slices_symMergeCmpFunc_int_u6
namespace slices_symMergeCmpFunc_int_u6
noncomputable def X : List Entry := [slices_symMergeCmpFunc_int_u5.E]
noncomputable def I : List Inl := [⟨68, Try.f68, ⟨[], [(40, [5, 6, 7, 8, 9, 10, 11, 12, 13, 14, 15, 16, 17, 19, 21, 22, 23, 25, 26, 27, 28, 29, 30, 31, 32, 33, 34, 35, 36, 37, 38, 39, 40, 41, 42, 43, 44, 45, 46, 47, 48, 49, 50, 51, 52, 53, 54, 55, 56, 57, 58, 59, 60, 61, 62, 63, 64, 65, 66, 67, 68, 69, 70, 71, 72, 73, 74, 75, 76, 77, 78, 79, 80, 81, 82, 83, 84, 85, 86, 87, 88, 89, 90, 91, 92, 93, 94, 95, 96, 97, 98, 99, 100, 101, 102, 103, 104, 105, 106, 107, 108, 109, 110, 111, 112, 113, 114, 115, 116, 117, 118, 119, 120, 121, 122, 123, 124, 125, 126, 127, 128, 129, 130, 131, 132, 133, 134, 135, 136, 137, 138, 139, 140, 141, 142, 143, 144, 145, 146, 147, 148, 149, 150, 151, 152, 153, 154, 155, 156, 157, 158, 159, 160, 161, 162, 163, 164, 165, 166, 167, 168, 169, 170, 171, 172, 173, 174, 175, 176, 177, 178, 179, 180, 181, 182, 183, 184, 185, 186, 187, 188, 189, 190, 191, 192, 193, 194, 195, 196, 197, 198, 199, 200, 201, 202, 203, 204, 205, 206, 207, 208, 209, 210, 211, 212, 213, 214, 215, 216, 217, 218, 219]), (1000003, [2, 3, 5, 6, 7, 8, 9, 12, 13, 14, 15, 16, 17, 18, 19, 20, 21, 22, 23, 24, 25, 26, 27, 28, 29, 30, 31, 32, 33, 34, 35, 36, 37, 38, 39, 40, 41, 42, 43, 44, 45, 46, 47, 48, 49, 50, 51, 52, 53, 54, 55, 56, 57, 58, 59, 60, 61, 62, 63, 64, 65, 66, 67, 68, 69, 70, 71, 72, 73, 74, 75, 76, 77, 78, 79, 80, 81, 82, 83, 84, 85, 86, 87, 88, 89, 90, 91, 92, 93, 94, 95, 96, 97, 98, 99, 100, 101, 102, 103, 104, 105, 106, 107, 108, 109, 110, 111, 112, 113, 114, 115, 116, 117, 118, 119, 120, 121, 122, 123, 124, 125, 126, 127, 128, 129, 130, 131, 132, 133, 134, 135, 136, 137, 138, 139, 140, 141, 142, 143, 144, 145, 146, 147, 148, 149, 150, 151, 152, 153, 154, 155, 156, 157, 158, 159, 160, 161, 162, 163, 164, 165, 166, 167, 168, 169, 170, 171, 172, 173, 174, 175, 176, 177, 178, 179, 180, 181, 182, 183, 184, 185, 186, 187, 188, 189, 190, 191, 192, 193, 194, 195, 196, 197, 198, 199, 200, 201, 202, 203, 204, 205, 206, 207, 208, 209, 210, 211, 212, 213, 214, 215, 216, 217, 218, 219]), (1000009, [1, 2, 3, 4, 5, 6, 7, 8, 9, 11, 12, 14, 15, 16, 17, 18, 19, 20, 21, 22, 23, 24, 25, 26, 27, 28, 29, 30, 31, 32, 33, 34, 35, 36, 37, 38, 39, 40, 41, 42, 43, 44, 45, 46, 47, 48, 49, 50, 51, 52, 53, 54, 55, 56, 57, 58, 59, 60, 61, 62, 63, 64, 65, 66, 67, 68, 69, 70, 71, 72, 73, 74, 75, 76, 77, 78, 79, 80, 81, 82, 83, 84, 85, 86, 87, 88, 89, 90, 91, 92, 93, 94, 95, 96, 97, 98, 99, 100, 101, 102, 103, 104, 105, 106, 107, 108, 109, 110, 111, 112, 113, 114, 115, 116, 117, 118, 119, 120, 121, 122, 123, 124, 125, 126, 127, 128, 129, 130, 131, 132, 133, 134, 135, 136, 137, 138, 139, 140, 141, 142, 143, 144, 145, 146, 147, 148, 149, 150, 151, 152, 153, 154, 155, 156, 157, 158, 159, 160, 161, 162, 163, 164, 165, 166, 167, 168, 169, 170, 171, 172, 173, 174, 175, 176, 177, 178, 179, 180, 181, 182, 183, 184, 185, 186, 187, 188, 189, 190, 191, 192, 193, 194, 195, 196, 197, 198, 199, 200, 201, 202, 203, 204, 205, 206, 207, 208, 209, 210, 211, 212, 213, 214, 215, 216, 217, 218, 219]), (1000015, [1, 3, 5, 6, 7, 8, 9, 10, 11, 12, 13, 16, 17, 18, 19, 20, 21, 22, 23, 24, 25, 26, 27, 28, 29, 30, 31, 32, 33, 34, 35, 36, 37, 38, 39, 40, 41, 42, 43, 44, 45, 46, 47, 48, 49, 50, 51, 52, 53, 54, 55, 56, 57, 58, 59, 60, 61, 62, 63, 64, 65, 66, 67, 68, 69, 70, 71, 72, 73, 74, 75, 76, 77, 78, 79, 80, 81, 82, 83, 84, 85, 86, 87, 88, 89, 90, 91, 92, 93, 94, 95, 96, 97, 98, 99, 100, 101, 102, 103, 104, 105, 106, 107, 108, 109, 110, 111, 112, 113, 114, 115, 116, 117, 118, 119, 120, 121, 122, 123, 124, 125, 126, 127, 128, 129, 130, 131, 132, 133, 134, 135, 136, 137, 138, 139, 140, 141, 142, 143, 144, 145, 146, 147, 148, 149, 150, 151, 152, 153, 154, 155, 156, 157, 158, 159, 160, 161, 162, 163, 164, 165, 166, 167, 168, 169, 170, 171, 172, 173, 174, 175, 176, 177, 178, 179, 180, 181, 182, 183, 184, 185, 186, 187, 188, 189, 190, 191, 192, 193, 194, 195, 196, 197, 198, 199, 200, 201, 202, 203, 204, 205, 206, 207, 208, 209, 210, 211, 212, 213, 214, 215, 216, 217, 218, 219]), (1000021, [1, 2, 3, 4, 5, 6, 7, 8, 9, 10, 11, 12, 13, 15, 16, 18, 19, 20, 21, 22, 23, 24, 25, 26, 27, 28, 29, 30, 31, 32, 33, 34, 35, 36, 37, 38, 39, 40, 41, 42, 43, 44, 45, 46, 47, 48, 49, 50, 51, 52, 53, 54, 55, 56, 57, 58, 59, 60, 61, 62, 63, 64, 65, 66, 67, 68, 69, 70, 71, 72, 73, 74, 75, 76, 77, 78, 79, 80, 81, 82, 83, 84, 85, 86, 87, 88, 89, 90, 91, 92, 93, 94, 95, 96, 97, 98, 99, 100, 101, 102, 103, 104, 105, 106, 107, 108, 109, 110, 111, 112, 113, 114, 115, 116, 117, 118, 119, 120, 121, 122, 123, 124, 125, 126, 127, 128, 129, 130, 131, 132, 133, 134, 135, 136, 137, 138, 139, 140, 141, 142, 143, 144, 145, 146, 147, 148, 149, 150, 151, 152, 153, 154, 155, 156, 157, 158, 159, 160, 161, 162, 163, 164, 165, 166, 167, 168, 169, 170, 171, 172, 173, 174, 175, 176, 177, 178, 179, 180, 181, 182, 183, 184, 185, 186, 187, 188, 189, 190, 191, 192, 193, 194, 195, 196, 197, 198, 199, 200, 201, 202, 203, 204, 205, 206, 207, 208, 209, 210, 211, 212, 213, 214, 215, 216, 217, 218, 219]), (1000033, [5, 6, 7, 8, 9, 10, 11, 12, 13, 14, 15, 16, 17, 23, 24, 25, 26, 27, 28, 29, 30, 31, 32, 33, 34, 35, 36, 37, 38, 39, 40, 41, 42, 43, 44, 45, 46, 47, 48, 49, 50, 51, 52, 53, 54, 55, 56, 57, 58, 59, 60, 61, 62, 63, 64, 65, 66, 67, 68, 69, 70, 71, 72, 73, 74, 75, 76, 77, 78, 79, 80, 81, 82, 83, 84, 85, 86, 87, 88, 89, 90, 91, 92, 93, 94, 95, 96, 97, 98, 99, 100, 101, 102, 103, 104, 105, 106, 107, 108, 109, 110, 111, 112, 113, 114, 115, 116, 117, 118, 119, 120, 121, 122, 123, 124, 125, 126, 127, 128, 129, 130, 131, 132, 133, 134, 135, 136, 137, 138, 139, 140, 141, 142, 143, 144, 145, 146, 147, 148, 149, 150, 151, 152, 153, 154, 155, 156, 157, 158, 159, 160, 161, 162, 163, 164, 165, 166, 167, 168, 169, 170, 171, 172, 173, 174, 175, 176, 177, 178, 179, 180, 181, 182, 183, 184, 185, 186, 187, 188, 189, 190, 191, 192, 193, 194, 195, 196, 197, 198, 199, 200, 201, 202, 203, 204, 205, 206, 207, 208, 209, 210, 211, 212, 213, 214, 215, 216, 217, 218, 219])], [], [(5, [0, 1, 2, 5, 6, 3, 4, 7, 8, 9, 10]), (11, [0, 1, 2, 3, 4, 5, 6, 7, 10, 11, 8, 9, 12, 13, 14, 15, 16, 17]), (17, [0, 1, 2, 5, 6, 3, 4, 7, 8, 9, 10, 11]), (23, [0, 1, 2, 3, 4, 5, 6, 7, 10, 11, 8, 9, 12, 13, 14, 15, 16, 17]), (35, [0, 1, 2, 3, 4, 7, 8, 5, 6, 9, 10, 11, 12, 13])], [], []⟩⟩, ⟨72, Try.f72, ⟨[], [(4, [1, 3, 5, 6, 7, 8, 9, 12, 13, 14, 15, 16, 17, 18, 19, 20, 21, 22, 23, 24, 25, 26, 27, 28, 29, 30, 31, 32, 33, 34, 35, 36, 37, 38, 39, 40, 41, 42, 43, 44, 45, 46, 47, 48, 49, 50, 51, 52, 53, 54, 55, 56, 57]), (6, [1, 3, 5, 6, 7, 8, 9, 12, 13, 14, 15, 16, 17, 18, 19, 20, 21, 22, 23, 24, 25, 26, 27, 28, 29, 30, 31, 32, 33, 34, 35, 36, 37, 38, 39, 40, 41, 42, 43, 44, 45, 46, 47, 48, 49, 50, 51, 52, 53, 54, 55, 56, 57]), (8, [1, 3, 5, 6, 7, 8, 9, 11, 12, 13, 14, 15, 16, 17, 18, 19, 20, 21, 22, 23, 24, 25, 26, 27, 28, 29, 30, 31, 32, 33, 34, 35, 36, 37, 38, 39, 40, 41, 42, 43, 44, 45, 46, 47, 48, 49, 50, 51, 52, 53, 54, 55, 56, 57]), (1000002, [1, 3, 5, 6, 7, 8, 9, 12, 13, 14, 15, 16, 17, 18, 19, 20, 21, 22, 23, 24, 25, 26, 27, 28, 29, 30, 31, 32, 33, 34, 35, 36, 37, 38, 39, 40, 41, 42, 43, 44, 45, 46, 47, 48, 49, 50, 51, 52, 53, 54, 55, 56, 57])], [], [], [], []⟩⟩, ⟨75, Try.f75, ⟨[], [(1000001, [4, 5, 6, 7, 8, 9, 11, 12, 13, 14, 15, 16, 17, 18, 19, 20, 21, 22, 23, 24, 25, 26, 27, 28, 29, 30, 31, 32, 33, 34, 35, 36, 37])], [], [(3, [0, 1, 2, 3, 4, 5, 6, 7, 8, 9, 10, 11, 14, 15, 16, 17, 12, 13, 18, 19, 20, 21, 22, 23])], [], []⟩⟩]
theorem I_ok : ∀ i ∈ I, Try.prog.funcs[i.f]? = some i.fn ∧ (i.fn.name == "runtime.NumGoroutine") = false := by
  intro i hi
  simp only [I, List.mem_cons, List.not_mem_nil, or_false] at hi
  rcases hi with rfl | rfl | rfl
  all_goals exact ⟨by kernel_rfl, by kernel_rfl⟩
noncomputable abbrev L0 (fuel n : Nat) (s : St) (k : Kont) := lAt Try.prog X I fuel false 4 false 68 (bodyOf Try.f68) [0, 1, 0, 1, 1, 0, 0] n s k
noncomputable abbrev k0  (fuel : Nat) : Kont := (kAt Try.prog X I fuel false 4 false 68 (bodyOf Try.f68) [0, 1, 0, 1, 1, 0, 0] [] (endK Try.prog Try.f68))
noncomputable def t0 (p1 : Int) (p4d : List Q → Bool) (p4g : List Q → Int) (p0 : List Int) (x0q3 : Int) (x0q4 : Int) : St := ⟨[(.all 1000000000 1), (.imm (.int .i64 p1)), .dead, .dead, (.imm (.fn false p4d p4g)), .dead, .dead, .dead, .dead, .dead, (.imm (.int .i64 x0q3)), (.imm (.int .i64 x0q4)), .dead, .dead, .dead, .dead, .dead, .dead, .dead, .dead, .dead, .dead, .dead, .dead, .dead, .dead, .dead, .dead, .dead, .dead, .dead, .dead, .dead, .dead, .dead, .dead, .dead, .dead, .dead, .dead, .dead, .dead, .dead, .dead, .dead, .dead, .dead, .dead, .dead, .dead, .dead, .dead, .dead, .dead, .dead, .dead, .dead, .dead, .dead, .dead, .dead, .dead, .dead, .dead, .dead, .dead, .dead, .dead, .dead, .dead, .dead, .dead, .dead, .dead, .dead, .dead, .dead, .dead, .dead, .dead, .dead, .dead, .dead, .dead, .dead, .dead, .dead, .dead, .dead, .dead, .dead, .dead, .dead, .dead, .dead, .dead, .dead, .dead, .dead, .dead, .dead, .dead, .dead, .dead, .dead, .dead, .dead, .dead, .dead, .dead, .dead, .dead, .dead, .dead, .dead, .dead, .dead, .dead, .dead, .dead, .dead, .dead, .dead, .dead, .dead, .dead, .dead, .dead, .dead, .dead, .dead, .dead, .dead, .dead, .dead, .dead, .dead, .dead, .dead, .dead, .dead, .dead, .dead, .dead, .dead, .dead, .dead, .dead, .dead, .dead, .dead, .dead, .dead, .dead, .dead, .dead, .dead, .dead, .dead, .dead, .dead, .dead, .dead, .dead, .dead, .dead, .dead, .dead, .dead, .dead, .dead, .dead, .dead, .dead, .dead, .dead, .dead, .dead, .dead, .dead, .dead, .dead, .dead, .dead, .dead, .dead, .dead, .dead, .dead, .dead, .dead, .dead, .dead, .dead, .dead, .dead, .dead, .dead, .dead, .dead, .dead, .dead, .dead, .dead, .dead, .dead, .dead, .dead, .dead, .dead, .dead, .dead, .dead, .dead, .dead, .dead, .dead, .dead, .dead, .dead], hOf [(1000000000, (.ints .i64 p0))], [(.all 1000000000 1)], []⟩
noncomputable abbrev L1 (fuel n : Nat) (s : St) (k : Kont) := lAt Try.prog X I fuel false 4 false 68 (bodyOf Try.f68) [0, 1, 0, 1, 1, 1, 0, 1, 0] n s k
noncomputable abbrev k1  (fuel : Nat) : Kont := (kAt Try.prog X I fuel false 4 false 68 (bodyOf Try.f68) [0, 1, 0, 1, 1, 1, 0, 1, 0] [] (endK Try.prog Try.f68))
noncomputable def t1 (x0q3 : Int) (x1q1 : Int) (x1q2 : List Int) : St := ⟨[(.all 1000000000 1), .dead, .dead, .dead, .dead, .dead, .dead, .dead, .dead, .dead, (.imm (.int .i64 x0q3)), .dead, .dead, (.imm (.int .i64 x1q1)), .dead, .dead, .dead, .dead, .dead, .dead, .dead, .dead, .dead, .dead, .dead, .dead, .dead, .dead, .dead, .dead, .dead, .dead, .dead, .dead, .dead, .dead, .dead, .dead, .dead, .dead, .dead, .dead, .dead, .dead, .dead, .dead, .dead, .dead, .dead, .dead, .dead, .dead, .dead, .dead, .dead, .dead, .dead, .dead, .dead, .dead, .dead, .dead, .dead, .dead, .dead, .dead, .dead, .dead, .dead, .dead, .dead, .dead, .dead, .dead, .dead, .dead, .dead, .dead, .dead, .dead, .dead, .dead, .dead, .dead, .dead, .dead, .dead, .dead, .dead, .dead, .dead, .dead, .dead, .dead, .dead, .dead, .dead, .dead, .dead, .dead, .dead, .dead, .dead, .dead, .dead, .dead, .dead, .dead, .dead, .dead, .dead, .dead, .dead, .dead, .dead, .dead, .dead, .dead, .dead, .dead, .dead, .dead, .dead, .dead, .dead, .dead, .dead, .dead, .dead, .dead, .dead, .dead, .dead, .dead, .dead, .dead, .dead, .dead, .dead, .dead, .dead, .dead, .dead, .dead, .dead, .dead, .dead, .dead, .dead, .dead, .dead, .dead, .dead, .dead, .dead, .dead, .dead, .dead, .dead, .dead, .dead, .dead, .dead, .dead, .dead, .dead, .dead, .dead, .dead, .dead, .dead, .dead, .dead, .dead, .dead, .dead, .dead, .dead, .dead, .dead, .dead, .dead, .dead, .dead, .dead, .dead, .dead, .dead, .dead, .dead, .dead, .dead, .dead, .dead, .dead, .dead, .dead, .dead, .dead, .dead, .dead, .dead, .dead, .dead, .dead, .dead, .dead, .dead, .dead, .dead, .dead, .dead, .dead, .dead, .dead, .dead, .dead, .dead, .dead, .dead], hOf [(1000000000, (.ints .i64 x1q2))], [(.all 1000000000 1)], []⟩
noncomputable abbrev L2 (fuel n : Nat) (s : St) (k : Kont) := lAt Try.prog X I fuel false 4 false 68 (bodyOf Try.f68) [1, 0, 1, 0, 1, 1, 0, 0] n s k
noncomputable abbrev k2  (fuel : Nat) : Kont := (kAt Try.prog X I fuel false 4 false 68 (bodyOf Try.f68) [1, 0, 1, 0, 1, 1, 0, 0] [] (endK Try.prog Try.f68))
noncomputable def t2 (p2 : Int) (p4d : List Q → Bool) (p4g : List Q → Int) (p0 : List Int) (x2q3 : Int) (x2q4 : Int) : St := ⟨[(.all 1000000000 1), .dead, (.imm (.int .i64 p2)), .dead, (.imm (.fn false p4d p4g)), .dead, .dead, .dead, .dead, .dead, .dead, .dead, .dead, .dead, (.imm (.int .i64 x2q3)), (.imm (.int .i64 x2q4)), .dead, .dead, .dead, .dead, .dead, .dead, .dead, .dead, .dead, .dead, .dead, .dead, .dead, .dead, .dead, .dead, .dead, .dead, .dead, .dead, .dead, .dead, .dead, .dead, .dead, .dead, .dead, .dead, .dead, .dead, .dead, .dead, .dead, .dead, .dead, .dead, .dead, .dead, .dead, .dead, .dead, .dead, .dead, .dead, .dead, .dead, .dead, .dead, .dead, .dead, .dead, .dead, .dead, .dead, .dead, .dead, .dead, .dead, .dead, .dead, .dead, .dead, .dead, .dead, .dead, .dead, .dead, .dead, .dead, .dead, .dead, .dead, .dead, .dead, .dead, .dead, .dead, .dead, .dead, .dead, .dead, .dead, .dead, .dead, .dead, .dead, .dead, .dead, .dead, .dead, .dead, .dead, .dead, .dead, .dead, .dead, .dead, .dead, .dead, .dead, .dead, .dead, .dead, .dead, .dead, .dead, .dead, .dead, .dead, .dead, .dead, .dead, .dead, .dead, .dead, .dead, .dead, .dead, .dead, .dead, .dead, .dead, .dead, .dead, .dead, .dead, .dead, .dead, .dead, .dead, .dead, .dead, .dead, .dead, .dead, .dead, .dead, .dead, .dead, .dead, .dead, .dead, .dead, .dead, .dead, .dead, .dead, .dead, .dead, .dead, .dead, .dead, .dead, .dead, .dead, .dead, .dead, .dead, .dead, .dead, .dead, .dead, .dead, .dead, .dead, .dead, .dead, .dead, .dead, .dead, .dead, .dead, .dead, .dead, .dead, .dead, .dead, .dead, .dead, .dead, .dead, .dead, .dead, .dead, .dead, .dead, .dead, .dead, .dead, .dead, .dead, .dead, .dead, .dead, .dead, .dead, .dead, .dead, .dead, .dead, .dead, .dead, .dead, .dead], hOf [(1000000000, (.ints .i64 p0))], [(.all 1000000000 1)], []⟩
noncomputable abbrev L3 (fuel n : Nat) (s : St) (k : Kont) := lAt Try.prog X I fuel false 4 false 68 (bodyOf Try.f68) [1, 0, 1, 0, 1, 1, 1, 0, 1, 0] n s k
noncomputable abbrev k3  (fuel : Nat) : Kont := (kAt Try.prog X I fuel false 4 false 68 (bodyOf Try.f68) [1, 0, 1, 0, 1, 1, 1, 0, 1, 0] [] (endK Try.prog Try.f68))
noncomputable def t3 (x2q3 : Int) (x3q1 : Int) (x3q2 : List Int) : St := ⟨[(.all 1000000000 1), .dead, .dead, .dead, .dead, .dead, .dead, .dead, .dead, .dead, .dead, .dead, .dead, .dead, (.imm (.int .i64 x2q3)), .dead, .dead, (.imm (.int .i64 x3q1)), .dead, .dead, .dead, .dead, .dead, .dead, .dead, .dead, .dead, .dead, .dead, .dead, .dead, .dead, .dead, .dead, .dead, .dead, .dead, .dead, .dead, .dead, .dead, .dead, .dead, .dead, .dead, .dead, .dead, .dead, .dead, .dead, .dead, .dead, .dead, .dead, .dead, .dead, .dead, .dead, .dead, .dead, .dead, .dead, .dead, .dead, .dead, .dead, .dead, .dead, .dead, .dead, .dead, .dead, .dead, .dead, .dead, .dead, .dead, .dead, .dead, .dead, .dead, .dead, .dead, .dead, .dead, .dead, .dead, .dead, .dead, .dead, .dead, .dead, .dead, .dead, .dead, .dead, .dead, .dead, .dead, .dead, .dead, .dead, .dead, .dead, .dead, .dead, .dead, .dead, .dead, .dead, .dead, .dead, .dead, .dead, .dead, .dead, .dead, .dead, .dead, .dead, .dead, .dead, .dead, .dead, .dead, .dead, .dead, .dead, .dead, .dead, .dead, .dead, .dead, .dead, .dead, .dead, .dead, .dead, .dead, .dead, .dead, .dead, .dead, .dead, .dead, .dead, .dead, .dead, .dead, .dead, .dead, .dead, .dead, .dead, .dead, .dead, .dead, .dead, .dead, .dead, .dead, .dead, .dead, .dead, .dead, .dead, .dead, .dead, .dead, .dead, .dead, .dead, .dead, .dead, .dead, .dead, .dead, .dead, .dead, .dead, .dead, .dead, .dead, .dead, .dead, .dead, .dead, .dead, .dead, .dead, .dead, .dead, .dead, .dead, .dead, .dead, .dead, .dead, .dead, .dead, .dead, .dead, .dead, .dead, .dead, .dead, .dead, .dead, .dead, .dead, .dead, .dead, .dead, .dead, .dead, .dead, .dead, .dead, .dead, .dead], hOf [(1000000000, (.ints .i64 x3q2))], [(.all 1000000000 1)], []⟩
noncomputable abbrev L4 (fuel n : Nat) (s : St) (k : Kont) := lAt Try.prog X I fuel false 4 false 68 (bodyOf Try.f68) [1, 1, 1, 1, 1, 1, 1, 0, 0] n s k
noncomputable abbrev k4  (fuel : Nat) : Kont := (kAt Try.prog X I fuel false 4 false 68 (bodyOf Try.f68) [1, 1, 1, 1, 1, 1, 1, 0, 0] [] (endK Try.prog Try.f68))
noncomputable def t4 (p1 : Int) (p2 : Int) (p3 : Int) (p4d : List Q → Bool) (p4g : List Q → Int) (p0 : List Int) (x4q7 : Int) (x4q8 : Int) : St := ⟨[(.all 1000000000 1), (.imm (.int .i64 p1)), (.imm (.int .i64 p2)), (.imm (.int .i64 p3)), (.imm (.fn false p4d p4g)), .dead, .dead, .dead, .dead, .dead, .dead, .dead, .dead, .dead, .dead, .dead, .dead, .dead, (.imm (.int .i64 (IntKind.wrap .i64 (Int.fdiv (IntKind.wrap .u64 (IntKind.wrap .i64 (p1 + p3))) (2 ^ min (1 : Int).toNat (IntKind.bits .u64)))))), (.imm (.int .i64 (IntKind.wrap .i64 ((IntKind.wrap .i64 (Int.fdiv (IntKind.wrap .u64 (IntKind.wrap .i64 (p1 + p3))) (2 ^ min (1 : Int).toNat (IntKind.bits .u64)))) + p2)))), (.imm (.int .i64 x4q7)), (.imm (.int .i64 x4q8)), (.imm (.int .i64 (IntKind.wrap .i64 ((IntKind.wrap .i64 ((IntKind.wrap .i64 (Int.fdiv (IntKind.wrap .u64 (IntKind.wrap .i64 (p1 + p3))) (2 ^ min (1 : Int).toNat (IntKind.bits .u64)))) + p2)) - 1)))), .dead, .dead, .dead, .dead, .dead, .dead, .dead, .dead, .dead, .dead, .dead, .dead, .dead, .dead, .dead, .dead, .dead, .dead, .dead, .dead, .dead, .dead, .dead, .dead, .dead, .dead, .dead, .dead, .dead, .dead, .dead, .dead, .dead, .dead, .dead, .dead, .dead, .dead, .dead, .dead, .dead, .dead, .dead, .dead, .dead, .dead, .dead, .dead, .dead, .dead, .dead, .dead, .dead, .dead, .dead, .dead, .dead, .dead, .dead, .dead, .dead, .dead, .dead, .dead, .dead, .dead, .dead, .dead, .dead, .dead, .dead, .dead, .dead, .dead, .dead, .dead, .dead, .dead, .dead, .dead, .dead, .dead, .dead, .dead, .dead, .dead, .dead, .dead, .dead, .dead, .dead, .dead, .dead, .dead, .dead, .dead, .dead, .dead, .dead, .dead, .dead, .dead, .dead, .dead, .dead, .dead, .dead, .dead, .dead, .dead, .dead, .dead, .dead, .dead, .dead, .dead, .dead, .dead, .dead, .dead, .dead, .dead, .dead, .dead, .dead, .dead, .dead, .dead, .dead, .dead, .dead, .dead, .dead, .dead, .dead, .dead, .dead, .dead, .dead, .dead, .dead, .dead, .dead, .dead, .dead, .dead, .dead, .dead, .dead, .dead, .dead, .dead, .dead, .dead, .dead, .dead, .dead, .dead, .dead, .dead, .dead, .dead, .dead, .dead, .dead, .dead, .dead, .dead, .dead, .dead, .dead, .dead, .dead, .dead, .dead, .dead, .dead, .dead, .dead, .dead, .dead, .dead, .dead, .dead, .dead, .dead, .dead, .dead, .dead, .dead, .dead, .dead, .dead, .dead, .dead, .dead, .dead], hOf [(1000000000, (.ints .i64 p0))], [(.all 1000000000 1)], []⟩
noncomputable abbrev L5 (fuel n : Nat) (s : St) (k : Kont) := lAt Try.prog X I fuel false 3 false 72 (bodyOf Try.f72) [1, 1, 0, 0] n s k
noncomputable abbrev k5  (fuel : Nat) : Kont := (kAt Try.prog X I fuel false 3 false 72 (bodyOf Try.f72) [1, 1, 0, 0] [] (endFn Try.prog Try.f72 220 (kOp Try.prog X I fuel false 4 68 (cAt (bodyOf Try.f68) [1, 1, 1, 1, 1, 1, 1, 1, 1, 0, 1, 0]) 5 (kAt Try.prog X I fuel false 4 false 68 (bodyOf Try.f68) [1, 1, 1, 1, 1, 1, 1, 1, 1, 0, 1, 0] [] (endK Try.prog Try.f68)))))
noncomputable def t5 (p2 : Int) (p4d : List Q → Bool) (p4g : List Q → Int) (p1 : Int) (p3 : Int) (x4q7 : Int) (x5q3 : Int) (x5q4 : Int) (x5q5 : List Int) : St := ⟨[(.all 1000000000 1), .dead, (.imm (.int .i64 p2)), .dead, (.imm (.fn false p4d p4g)), .dead, .dead, .dead, .dead, .dead, (.imm (.int .i64 x5q3)), (.imm (.int .i64 x5q4)), .dead, .dead, .dead, .dead, .dead, .dead, .dead, .dead, .dead, .dead, .dead, .dead, .dead, .dead, .dead, .dead, .dead, .dead, .dead, .dead, .dead, .dead, .dead, .dead, .dead, .dead, .dead, .dead, .dead, .dead, .dead, .dead, .dead, .dead, .dead, .dead, .dead, .dead, .dead, .dead, .dead, .dead, .dead, .dead, .dead, .dead], hOf [(1000000000, (.ints .i64 x5q5))], [(.all 1000000000 1), (.imm (.int .i64 p1)), (.imm (.int .i64 p2)), (.imm (.int .i64 p3)), (.imm (.fn false p4d p4g)), .dead, .dead, .dead, .dead, .dead, .dead, .dead, .dead, .dead, .dead, .dead, .dead, .dead, (.imm (.int .i64 (IntKind.wrap .i64 (Int.fdiv (IntKind.wrap .u64 (IntKind.wrap .i64 (p1 + p3))) (2 ^ min (1 : Int).toNat (IntKind.bits .u64)))))), .dead, (.imm (.int .i64 x4q7)), .dead, .dead, .dead, (.imm (.int .i64 (IntKind.wrap .i64 ((IntKind.wrap .i64 ((IntKind.wrap .i64 (Int.fdiv (IntKind.wrap .u64 (IntKind.wrap .i64 (p1 + p3))) (2 ^ min (1 : Int).toNat (IntKind.bits .u64)))) + p2)) - x4q7)))), .dead, .dead, .dead, .dead, .dead, .dead, .dead, .dead, .dead, .dead, .dead, .dead, .dead, .dead, .dead, .dead, .dead, .dead, .dead, .dead, .dead, .dead, .dead, .dead, .dead, .dead, .dead, .dead, .dead, .dead, .dead, .dead, .dead, .dead, .dead, .dead, .dead, .dead, .dead, .dead, .dead, .dead, .dead, .dead, .dead, .dead, .dead, .dead, .dead, .dead, .dead, .dead, .dead, .dead, .dead, .dead, .dead, .dead, .dead, .dead, .dead, .dead, .dead, .dead, .dead, .dead, .dead, .dead, .dead, .dead, .dead, .dead, .dead, .dead, .dead, .dead, .dead, .dead, .dead, .dead, .dead, .dead, .dead, .dead, .dead, .dead, .dead, .dead, .dead, .dead, .dead, .dead, .dead, .dead, .dead, .dead, .dead, .dead, .dead, .dead, .dead, .dead, .dead, .dead, .dead, .dead, .dead, .dead, .dead, .dead, .dead, .dead, .dead, .dead, .dead, .dead, .dead, .dead, .dead, .dead, .dead, .dead, .dead, .dead, .dead, .dead, .dead, .dead, .dead, .dead, .dead, .dead, .dead, .dead, .dead, .dead, .dead, .dead, .dead, .dead, .dead, .dead, .dead, .dead, .dead, .dead, .dead, .dead, .dead, .dead, .dead, .dead, .dead, .dead, .dead, .dead, .dead, .dead, .dead, .dead, .dead, (.all 1000000000 1), (.imm (.int .i64 x4q7)), (.imm (.int .i64 p2)), (.imm (.int .i64 (IntKind.wrap .i64 ((IntKind.wrap .i64 ((IntKind.wrap .i64 (Int.fdiv (IntKind.wrap .u64 (IntKind.wrap .i64 (p1 + p3))) (2 ^ min (1 : Int).toNat (IntKind.bits .u64)))) + p2)) - x4q7)))), (.imm (.fn false p4d p4g)), .dead, .dead, .dead, .dead, .dead, .dead, .dead, .dead, .dead, .dead, .dead, .dead, .dead, .dead, .dead, .dead, .dead, .dead, .dead, .dead, .dead, .dead, .dead, .dead, .dead, .dead, .dead, .dead, .dead, (.tup []), (.all 1000000000 1)], []⟩
noncomputable abbrev L6 (fuel n : Nat) (s : St) (k : Kont) := lAt Try.prog X I fuel false 2 false 75 (bodyOf Try.f75) [1, 0] n s k
noncomputable abbrev k6 (n5 : Nat) (fuel : Nat) : Kont := (kAt Try.prog X I fuel false 2 false 75 (bodyOf Try.f75) [1, 0] [] (endFn Try.prog Try.f75 58 (kOp Try.prog X I fuel false 3 72 (cAt (bodyOf Try.f72) [1, 1, 0, 0, 0, 1, 0, 1, 0, 0]) 7 (kAt Try.prog X I fuel false 3 false 72 (bodyOf Try.f72) [1, 1, 0, 0, 0, 1, 0, 1, 0, 0] [n5] (endFn Try.prog Try.f72 220 (kOp Try.prog X I fuel false 4 68 (cAt (bodyOf Try.f68) [1, 1, 1, 1, 1, 1, 1, 1, 1, 0, 1, 0]) 5 (kAt Try.prog X I fuel false 4 false 68 (bodyOf Try.f68) [1, 1, 1, 1, 1, 1, 1, 1, 1, 0, 1, 0] [] (endK Try.prog Try.f68))))))))
noncomputable def t6 (p2 : Int) (x5q3 : Int) (x5q4 : Int) (p4d : List Q → Bool) (p4g : List Q → Int) (p1 : Int) (p3 : Int) (x4q7 : Int) (x6q3 : Int) (x6q4 : List Int) : St := ⟨[(.all 1000000000 1), (.imm (.int .i64 (IntKind.wrap .i64 (p2 - x5q3)))), (.imm (.int .i64 p2)), (.imm (.int .i64 x5q4)), .dead, .dead, .dead, .dead, .dead, .dead, (.imm (.int .i64 x6q3)), .dead, .dead, .dead, .dead, .dead, .dead, .dead, .dead, .dead, .dead, .dead, .dead, .dead, .dead, .dead, .dead, .dead, .dead, .dead, .dead, .dead, .dead, .dead, .dead, .dead, .dead, .dead], hOf [(1000000000, (.ints .i64 x6q4))], [(.all 1000000000 1), .dead, (.imm (.int .i64 p2)), .dead, (.imm (.fn false p4d p4g)), .dead, .dead, .dead, .dead, .dead, (.imm (.int .i64 x5q3)), (.imm (.int .i64 x5q4)), .dead, .dead, .dead, .dead, .dead, .dead, .dead, .dead, .dead, .dead, .dead, .dead, (.all 1000000000 1), (.imm (.int .i64 p2)), (.imm (.int .i64 x5q3)), (.imm (.int .i64 (IntKind.wrap .i64 (p2 - x5q3)))), (.imm (.int .i64 p2)), (.imm (.int .i64 x5q4)), (.imm (.fn false p4d p4g)), .dead, .dead, .dead, .dead, .dead, .dead, .dead, .dead, .dead, .dead, .dead, .dead, .dead, .dead, .dead, .dead, .dead, .dead, .dead, .dead, .dead, .dead, .dead, .dead, .dead, .dead, .dead, (.tup []), (.all 1000000000 1), (.imm (.int .i64 p1)), (.imm (.int .i64 p2)), (.imm (.int .i64 p3)), (.imm (.fn false p4d p4g)), .dead, .dead, .dead, .dead, .dead, .dead, .dead, .dead, .dead, .dead, .dead, .dead, .dead, (.imm (.int .i64 (IntKind.wrap .i64 (Int.fdiv (IntKind.wrap .u64 (IntKind.wrap .i64 (p1 + p3))) (2 ^ min (1 : Int).toNat (IntKind.bits .u64)))))), .dead, (.imm (.int .i64 x4q7)), .dead, .dead, .dead, (.imm (.int .i64 (IntKind.wrap .i64 ((IntKind.wrap .i64 ((IntKind.wrap .i64 (Int.fdiv (IntKind.wrap .u64 (IntKind.wrap .i64 (p1 + p3))) (2 ^ min (1 : Int).toNat (IntKind.bits .u64)))) + p2)) - x4q7)))), .dead, .dead, .dead, .dead, .dead, .dead, .dead, .dead, .dead, .dead, .dead, .dead, .dead, .dead, .dead, .dead, .dead, .dead, .dead, .dead, .dead, .dead, .dead, .dead, .dead, .dead, .dead, .dead, .dead, .dead, .dead, .dead, .dead, .dead, .dead, .dead, .dead, .dead, .dead, .dead, .dead, .dead, .dead, .dead, .dead, .dead, .dead, .dead, .dead, .dead, .dead, .dead, .dead, .dead, .dead, .dead, .dead, .dead, .dead, .dead, .dead, .dead, .dead, .dead, .dead, .dead, .dead, .dead, .dead, .dead, .dead, .dead, .dead, .dead, .dead, .dead, .dead, .dead, .dead, .dead, .dead, .dead, .dead, .dead, .dead, .dead, .dead, .dead, .dead, .dead, .dead, .dead, .dead, .dead, .dead, .dead, .dead, .dead, .dead, .dead, .dead, .dead, .dead, .dead, .dead, .dead, .dead, .dead, .dead, .dead, .dead, .dead, .dead, .dead, .dead, .dead, .dead, .dead, .dead, .dead, .dead, .dead, .dead, .dead, .dead, .dead, .dead, .dead, .dead, .dead, .dead, .dead, .dead, .dead, .dead, .dead, .dead, .dead, .dead, .dead, .dead, .dead, .dead, .dead, .dead, .dead, .dead, .dead, .dead, .dead, .dead, .dead, .dead, .dead, .dead, .dead, .dead, .dead, .dead, .dead, .dead, (.all 1000000000 1), (.imm (.int .i64 x4q7)), (.imm (.int .i64 p2)), (.imm (.int .i64 (IntKind.wrap .i64 ((IntKind.wrap .i64 ((IntKind.wrap .i64 (Int.fdiv (IntKind.wrap .u64 (IntKind.wrap .i64 (p1 + p3))) (2 ^ min (1 : Int).toNat (IntKind.bits .u64)))) + p2)) - x4q7)))), (.imm (.fn false p4d p4g)), .dead, .dead, .dead, .dead, .dead, .dead, .dead, .dead, .dead, .dead, .dead, .dead, .dead, .dead, .dead, .dead, .dead, .dead, .dead, .dead, .dead, .dead, .dead, .dead, .dead, .dead, .dead, .dead, .dead, (.tup []), (.all 1000000000 1)], []⟩
noncomputable abbrev L7 (fuel n : Nat) (s : St) (k : Kont) := lAt Try.prog X I fuel false 2 false 75 (bodyOf Try.f75) [1, 0] n s k
noncomputable abbrev k7 (n5 : Nat) (fuel : Nat) : Kont := (kAt Try.prog X I fuel false 2 false 75 (bodyOf Try.f75) [1, 0] [] (endFn Try.prog Try.f75 58 (kOp Try.prog X I fuel false 3 72 (cAt (bodyOf Try.f72) [1, 1, 0, 0, 0, 1, 0, 1, 1, 0]) 11 (kAt Try.prog X I fuel false 3 false 72 (bodyOf Try.f72) [1, 1, 0, 0, 0, 1, 0, 1, 1, 0] [n5] (endFn Try.prog Try.f72 220 (kOp Try.prog X I fuel false 4 68 (cAt (bodyOf Try.f68) [1, 1, 1, 1, 1, 1, 1, 1, 1, 0, 1, 0]) 5 (kAt Try.prog X I fuel false 4 false 68 (bodyOf Try.f68) [1, 1, 1, 1, 1, 1, 1, 1, 1, 0, 1, 0] [] (endK Try.prog Try.f68))))))))
noncomputable def t7 (p2 : Int) (x5q3 : Int) (x5q4 : Int) (p4d : List Q → Bool) (p4g : List Q → Int) (p1 : Int) (p3 : Int) (x4q7 : Int) (x7q3 : Int) (x7q4 : List Int) : St := ⟨[(.all 1000000000 1), (.imm (.int .i64 (IntKind.wrap .i64 (p2 - x5q3)))), (.imm (.int .i64 (IntKind.wrap .i64 ((IntKind.wrap .i64 (p2 + x5q4)) - x5q3)))), (.imm (.int .i64 x5q3)), .dead, .dead, .dead, .dead, .dead, .dead, (.imm (.int .i64 x7q3)), .dead, .dead, .dead, .dead, .dead, .dead, .dead, .dead, .dead, .dead, .dead, .dead, .dead, .dead, .dead, .dead, .dead, .dead, .dead, .dead, .dead, .dead, .dead, .dead, .dead, .dead, .dead], hOf [(1000000000, (.ints .i64 x7q4))], [(.all 1000000000 1), .dead, (.imm (.int .i64 p2)), .dead, (.imm (.fn false p4d p4g)), .dead, .dead, .dead, .dead, .dead, (.imm (.int .i64 x5q3)), (.imm (.int .i64 x5q4)), .dead, .dead, .dead, .dead, .dead, .dead, .dead, .dead, .dead, .dead, .dead, .dead, .dead, .dead, .dead, .dead, .dead, .dead, .dead, .dead, .dead, .dead, .dead, (.all 1000000000 1), (.imm (.int .i64 p2)), (.imm (.int .i64 x5q3)), (.imm (.int .i64 (IntKind.wrap .i64 (p2 - x5q3)))), (.imm (.int .i64 p2)), (.imm (.int .i64 x5q4)), (.imm (.int .i64 (IntKind.wrap .i64 (p2 + x5q4)))), (.imm (.int .i64 x5q3)), (.imm (.int .i64 (IntKind.wrap .i64 ((IntKind.wrap .i64 (p2 + x5q4)) - x5q3)))), (.imm (.int .i64 x5q3)), (.imm (.fn false p4d p4g)), .dead, .dead, .dead, .dead, .dead, .dead, .dead, .dead, .dead, .dead, .dead, .dead, (.tup []), (.all 1000000000 1), (.imm (.int .i64 p1)), (.imm (.int .i64 p2)), (.imm (.int .i64 p3)), (.imm (.fn false p4d p4g)), .dead, .dead, .dead, .dead, .dead, .dead, .dead, .dead, .dead, .dead, .dead, .dead, .dead, (.imm (.int .i64 (IntKind.wrap .i64 (Int.fdiv (IntKind.wrap .u64 (IntKind.wrap .i64 (p1 + p3))) (2 ^ min (1 : Int).toNat (IntKind.bits .u64)))))), .dead, (.imm (.int .i64 x4q7)), .dead, .dead, .dead, (.imm (.int .i64 (IntKind.wrap .i64 ((IntKind.wrap .i64 ((IntKind.wrap .i64 (Int.fdiv (IntKind.wrap .u64 (IntKind.wrap .i64 (p1 + p3))) (2 ^ min (1 : Int).toNat (IntKind.bits .u64)))) + p2)) - x4q7)))), .dead, .dead, .dead, .dead, .dead, .dead, .dead, .dead, .dead, .dead, .dead, .dead, .dead, .dead, .dead, .dead, .dead, .dead, .dead, .dead, .dead, .dead, .dead, .dead, .dead, .dead, .dead, .dead, .dead, .dead, .dead, .dead, .dead, .dead, .dead, .dead, .dead, .dead, .dead, .dead, .dead, .dead, .dead, .dead, .dead, .dead, .dead, .dead, .dead, .dead, .dead, .dead, .dead, .dead, .dead, .dead, .dead, .dead, .dead, .dead, .dead, .dead, .dead, .dead, .dead, .dead, .dead, .dead, .dead, .dead, .dead, .dead, .dead, .dead, .dead, .dead, .dead, .dead, .dead, .dead, .dead, .dead, .dead, .dead, .dead, .dead, .dead, .dead, .dead, .dead, .dead, .dead, .dead, .dead, .dead, .dead, .dead, .dead, .dead, .dead, .dead, .dead, .dead, .dead, .dead, .dead, .dead, .dead, .dead, .dead, .dead, .dead, .dead, .dead, .dead, .dead, .dead, .dead, .dead, .dead, .dead, .dead, .dead, .dead, .dead, .dead, .dead, .dead, .dead, .dead, .dead, .dead, .dead, .dead, .dead, .dead, .dead, .dead, .dead, .dead, .dead, .dead, .dead, .dead, .dead, .dead, .dead, .dead, .dead, .dead, .dead, .dead, .dead, .dead, .dead, .dead, .dead, .dead, .dead, .dead, .dead, (.all 1000000000 1), (.imm (.int .i64 x4q7)), (.imm (.int .i64 p2)), (.imm (.int .i64 (IntKind.wrap .i64 ((IntKind.wrap .i64 ((IntKind.wrap .i64 (Int.fdiv (IntKind.wrap .u64 (IntKind.wrap .i64 (p1 + p3))) (2 ^ min (1 : Int).toNat (IntKind.bits .u64)))) + p2)) - x4q7)))), (.imm (.fn false p4d p4g)), .dead, .dead, .dead, .dead, .dead, .dead, .dead, .dead, .dead, .dead, .dead, .dead, .dead, .dead, .dead, .dead, .dead, .dead, .dead, .dead, .dead, .dead, .dead, .dead, .dead, .dead, .dead, .dead, .dead, (.tup []), (.all 1000000000 1)], []⟩
noncomputable abbrev L8 (fuel n : Nat) (s : St) (k : Kont) := lAt Try.prog X I fuel false 2 false 75 (bodyOf Try.f75) [1, 0] n s k
noncomputable abbrev k8  (fuel : Nat) : Kont := (kAt Try.prog X I fuel false 2 false 75 (bodyOf Try.f75) [1, 0] [] (endFn Try.prog Try.f75 58 (kOp Try.prog X I fuel false 3 72 (cAt (bodyOf Try.f72) [1, 1, 1]) 7 (kAt Try.prog X I fuel false 3 false 72 (bodyOf Try.f72) [1, 1, 1] [] (endFn Try.prog Try.f72 220 (kOp Try.prog X I fuel false 4 68 (cAt (bodyOf Try.f68) [1, 1, 1, 1, 1, 1, 1, 1, 1, 0, 1, 0]) 5 (kAt Try.prog X I fuel false 4 false 68 (bodyOf Try.f68) [1, 1, 1, 1, 1, 1, 1, 1, 1, 0, 1, 0] [] (endK Try.prog Try.f68))))))))
noncomputable def t8 (p2 : Int) (x5q3 : Int) (p4d : List Q → Bool) (p4g : List Q → Int) (p1 : Int) (p3 : Int) (x4q7 : Int) (x8q3 : Int) (x8q4 : List Int) : St := ⟨[(.all 1000000000 1), (.imm (.int .i64 (IntKind.wrap .i64 (p2 - x5q3)))), (.imm (.int .i64 p2)), (.imm (.int .i64 x5q3)), .dead, .dead, .dead, .dead, .dead, .dead, (.imm (.int .i64 x8q3)), .dead, .dead, .dead, .dead, .dead, .dead, .dead, .dead, .dead, .dead, .dead, .dead, .dead, .dead, .dead, .dead, .dead, .dead, .dead, .dead, .dead, .dead, .dead, .dead, .dead, .dead, .dead], hOf [(1000000000, (.ints .i64 x8q4))], [(.all 1000000000 1), .dead, (.imm (.int .i64 p2)), .dead, (.imm (.fn false p4d p4g)), .dead, .dead, .dead, .dead, .dead, (.imm (.int .i64 x5q3)), .dead, .dead, .dead, .dead, .dead, .dead, .dead, .dead, .dead, .dead, .dead, .dead, .dead, .dead, .dead, .dead, .dead, .dead, .dead, .dead, .dead, .dead, .dead, .dead, .dead, .dead, .dead, .dead, .dead, .dead, .dead, .dead, .dead, .dead, .dead, .dead, .dead, .dead, .dead, (.all 1000000000 1), (.imm (.int .i64 p2)), (.imm (.int .i64 x5q3)), (.imm (.int .i64 (IntKind.wrap .i64 (p2 - x5q3)))), (.imm (.int .i64 p2)), (.imm (.int .i64 x5q3)), (.imm (.fn false p4d p4g)), .dead, (.tup []), (.all 1000000000 1), (.imm (.int .i64 p1)), (.imm (.int .i64 p2)), (.imm (.int .i64 p3)), (.imm (.fn false p4d p4g)), .dead, .dead, .dead, .dead, .dead, .dead, .dead, .dead, .dead, .dead, .dead, .dead, .dead, (.imm (.int .i64 (IntKind.wrap .i64 (Int.fdiv (IntKind.wrap .u64 (IntKind.wrap .i64 (p1 + p3))) (2 ^ min (1 : Int).toNat (IntKind.bits .u64)))))), .dead, (.imm (.int .i64 x4q7)), .dead, .dead, .dead, (.imm (.int .i64 (IntKind.wrap .i64 ((IntKind.wrap .i64 ((IntKind.wrap .i64 (Int.fdiv (IntKind.wrap .u64 (IntKind.wrap .i64 (p1 + p3))) (2 ^ min (1 : Int).toNat (IntKind.bits .u64)))) + p2)) - x4q7)))), .dead, .dead, .dead, .dead, .dead, .dead, .dead, .dead, .dead, .dead, .dead, .dead, .dead, .dead, .dead, .dead, .dead, .dead, .dead, .dead, .dead, .dead, .dead, .dead, .dead, .dead, .dead, .dead, .dead, .dead, .dead, .dead, .dead, .dead, .dead, .dead, .dead, .dead, .dead, .dead, .dead, .dead, .dead, .dead, .dead, .dead, .dead, .dead, .dead, .dead, .dead, .dead, .dead, .dead, .dead, .dead, .dead, .dead, .dead, .dead, .dead, .dead, .dead, .dead, .dead, .dead, .dead, .dead, .dead, .dead, .dead, .dead, .dead, .dead, .dead, .dead, .dead, .dead, .dead, .dead, .dead, .dead, .dead, .dead, .dead, .dead, .dead, .dead, .dead, .dead, .dead, .dead, .dead, .dead, .dead, .dead, .dead, .dead, .dead, .dead, .dead, .dead, .dead, .dead, .dead, .dead, .dead, .dead, .dead, .dead, .dead, .dead, .dead, .dead, .dead, .dead, .dead, .dead, .dead, .dead, .dead, .dead, .dead, .dead, .dead, .dead, .dead, .dead, .dead, .dead, .dead, .dead, .dead, .dead, .dead, .dead, .dead, .dead, .dead, .dead, .dead, .dead, .dead, .dead, .dead, .dead, .dead, .dead, .dead, .dead, .dead, .dead, .dead, .dead, .dead, .dead, .dead, .dead, .dead, .dead, .dead, (.all 1000000000 1), (.imm (.int .i64 x4q7)), (.imm (.int .i64 p2)), (.imm (.int .i64 (IntKind.wrap .i64 ((IntKind.wrap .i64 ((IntKind.wrap .i64 (Int.fdiv (IntKind.wrap .u64 (IntKind.wrap .i64 (p1 + p3))) (2 ^ min (1 : Int).toNat (IntKind.bits .u64)))) + p2)) - x4q7)))), (.imm (.fn false p4d p4g)), .dead, .dead, .dead, .dead, .dead, .dead, .dead, .dead, .dead, .dead, .dead, .dead, .dead, .dead, .dead, .dead, .dead, .dead, .dead, .dead, .dead, .dead, .dead, .dead, .dead, .dead, .dead, .dead, .dead, (.tup []), (.all 1000000000 1)], []⟩
theorem e (fuel : Nat) (p0 : List Int) (p1 : Int) (p2 : Int) (p3 : Int) (p4d : List Q → Bool) (p4g : List Q → Int) : runF Try.prog X I 4 fuel 68 Try.f68 [.rows true [(.i64, p0)], .d (.int .i64 p1), .d (.int .i64 p2), .d (.int .i64 p3), .d (.fn false p4d p4g)] =
  (bif (((IntKind.wrap .i64 (p2 - p1)) : Int) == 1) then
  L0 fuel fuel (t0 p1 p4d p4g p0 p2 p3) (k0  fuel)
  else
  (bif (((IntKind.wrap .i64 (p3 - p2)) : Int) == 1) then
  L2 fuel fuel (t2 p2 p4d p4g p0 p1 p2) (k2  fuel)
  else
  (bif (decide ((p2 : Int) > (IntKind.wrap .i64 (Int.fdiv (IntKind.wrap .u64 (IntKind.wrap .i64 (p1 + p3))) (2 ^ min (1 : Int).toNat (IntKind.bits .u64)))))) then
  L4 fuel fuel (t4 p1 p2 p3 p4d p4g p0 ((IntKind.wrap .i64 ((IntKind.wrap .i64 ((IntKind.wrap .i64 (Int.fdiv (IntKind.wrap .u64 (IntKind.wrap .i64 (p1 + p3))) (2 ^ min (1 : Int).toNat (IntKind.bits .u64)))) + p2)) - p3))) ((IntKind.wrap .i64 (Int.fdiv (IntKind.wrap .u64 (IntKind.wrap .i64 (p1 + p3))) (2 ^ min (1 : Int).toNat (IntKind.bits .u64)))))) (k4  fuel)
  else
  L4 fuel fuel (t4 p1 p2 p3 p4d p4g p0 p1 p2) (k4  fuel)))) := by kernel_rfl
theorem s0 (fuel n0 : Nat) (p1 : Int) (p4d : List Q → Bool) (p4g : List Q → Int) (p0 : List Int) (x0q3 : Int) (x0q4 : Int) : L0 fuel (n0 + 1) (t0 p1 p4d p4g p0 x0q3 x0q4) (k0  fuel) =
  (bif (decide ((x0q3 : Int) < x0q4)) then
  (idx (IntKind.wrap .i64 (Int.fdiv (IntKind.wrap .u64 (IntKind.wrap .i64 (x0q3 + x0q4))) (2 ^ min (1 : Int).toNat (IntKind.bits .u64)))) p0.length).bind fun j39 =>
  (p0[j39]?).bind fun v40 =>
  (idx p1 p0.length).bind fun j41 =>
  (p0[j41]?).bind fun v42 =>
  (bif (p4d [Q.i v40, Q.i v42]) then
  (bif (decide (((p4g [Q.i v40, Q.i v42]) : Int) < 0)) then
  L0 fuel n0 (t0 p1 p4d p4g p0 ((IntKind.wrap .i64 ((IntKind.wrap .i64 (Int.fdiv (IntKind.wrap .u64 (IntKind.wrap .i64 (x0q3 + x0q4))) (2 ^ min (1 : Int).toNat (IntKind.bits .u64)))) + 1))) x0q4) (k0  fuel)
  else
  L0 fuel n0 (t0 p1 p4d p4g p0 x0q3 ((IntKind.wrap .i64 (Int.fdiv (IntKind.wrap .u64 (IntKind.wrap .i64 (x0q3 + x0q4))) (2 ^ min (1 : Int).toNat (IntKind.bits .u64)))))) (k0  fuel))
  else
  none)
  else
  L1 fuel fuel (t1 x0q3 p1 p0) (k1  fuel)) := by kernel_rfl
theorem s1 (fuel n1 : Nat) (x0q3 : Int) (x1q1 : Int) (x1q2 : List Int) : L1 fuel (n1 + 1) (t1 x0q3 x1q1 x1q2) (k1  fuel) =
  (bif (decide ((x1q1 : Int) < (IntKind.wrap .i64 (x0q3 - 1)))) then
  (idx (IntKind.wrap .i64 (x1q1 + 1)) x1q2.length).bind fun j49 =>
  (x1q2[j49]?).bind fun v50 =>
  (idx x1q1 x1q2.length).bind fun j51 =>
  (x1q2[j51]?).bind fun v52 =>
  (idx x1q1 x1q2.length).bind fun j53 =>
  (bif decide (j53 < x1q2.length) then
  (idx (IntKind.wrap .i64 (x1q1 + 1)) (x1q2.set j53 v50).length).bind fun j54 =>
  (bif decide (j54 < (x1q2.set j53 v50).length) then
  L1 fuel n1 (t1 x0q3 ((IntKind.wrap .i64 (x1q1 + 1))) (((x1q2.set j53 v50).set j54 v52))) (k1  fuel)
  else
  none)
  else
  none)
  else
  some ([], [[(.ints .i64 x1q2)]])) := by kernel_rfl
theorem s2 (fuel n2 : Nat) (p2 : Int) (p4d : List Q → Bool) (p4g : List Q → Int) (p0 : List Int) (x2q3 : Int) (x2q4 : Int) : L2 fuel (n2 + 1) (t2 p2 p4d p4g p0 x2q3 x2q4) (k2  fuel) =
  (bif (decide ((x2q3 : Int) < x2q4)) then
  (idx p2 p0.length).bind fun j93 =>
  (p0[j93]?).bind fun v94 =>
  (idx (IntKind.wrap .i64 (Int.fdiv (IntKind.wrap .u64 (IntKind.wrap .i64 (x2q3 + x2q4))) (2 ^ min (1 : Int).toNat (IntKind.bits .u64)))) p0.length).bind fun j95 =>
  (p0[j95]?).bind fun v96 =>
  (bif (p4d [Q.i v94, Q.i v96]) then
  (bif (!(decide (((p4g [Q.i v94, Q.i v96]) : Int) < 0))) then
  L2 fuel n2 (t2 p2 p4d p4g p0 ((IntKind.wrap .i64 ((IntKind.wrap .i64 (Int.fdiv (IntKind.wrap .u64 (IntKind.wrap .i64 (x2q3 + x2q4))) (2 ^ min (1 : Int).toNat (IntKind.bits .u64)))) + 1))) x2q4) (k2  fuel)
  else
  L2 fuel n2 (t2 p2 p4d p4g p0 x2q3 ((IntKind.wrap .i64 (Int.fdiv (IntKind.wrap .u64 (IntKind.wrap .i64 (x2q3 + x2q4))) (2 ^ min (1 : Int).toNat (IntKind.bits .u64)))))) (k2  fuel))
  else
  none)
  else
  L3 fuel fuel (t3 x2q3 p2 p0) (k3  fuel)) := by kernel_rfl
theorem s3 (fuel n3 : Nat) (x2q3 : Int) (x3q1 : Int) (x3q2 : List Int) : L3 fuel (n3 + 1) (t3 x2q3 x3q1 x3q2) (k3  fuel) =
  (bif (decide ((x3q1 : Int) > x2q3)) then
  (idx (IntKind.wrap .i64 (x3q1 - 1)) x3q2.length).bind fun j103 =>
  (x3q2[j103]?).bind fun v104 =>
  (idx x3q1 x3q2.length).bind fun j105 =>
  (x3q2[j105]?).bind fun v106 =>
  (idx x3q1 x3q2.length).bind fun j107 =>
  (bif decide (j107 < x3q2.length) then
  (idx (IntKind.wrap .i64 (x3q1 - 1)) (x3q2.set j107 v104).length).bind fun j108 =>
  (bif decide (j108 < (x3q2.set j107 v104).length) then
  L3 fuel n3 (t3 x2q3 ((IntKind.wrap .i64 (x3q1 - 1))) (((x3q2.set j107 v104).set j108 v106))) (k3  fuel)
  else
  none)
  else
  none)
  else
  some ([], [[(.ints .i64 x3q2)]])) := by kernel_rfl
theorem s4 (fuel n4 : Nat) (p1 : Int) (p2 : Int) (p3 : Int) (p4d : List Q → Bool) (p4g : List Q → Int) (p0 : List Int) (x4q7 : Int) (x4q8 : Int) : L4 fuel (n4 + 1) (t4 p1 p2 p3 p4d p4g p0 x4q7 x4q8) (k4  fuel) =
  (bif (decide ((x4q7 : Int) < x4q8)) then
  (idx (IntKind.wrap .i64 ((IntKind.wrap .i64 ((IntKind.wrap .i64 ((IntKind.wrap .i64 (Int.fdiv (IntKind.wrap .u64 (IntKind.wrap .i64 (p1 + p3))) (2 ^ min (1 : Int).toNat (IntKind.bits .u64)))) + p2)) - 1)) - (IntKind.wrap .i64 (Int.fdiv (IntKind.wrap .u64 (IntKind.wrap .i64 (x4q7 + x4q8))) (2 ^ min (1 : Int).toNat (IntKind.bits .u64)))))) p0.length).bind fun j315 =>
  (p0[j315]?).bind fun v316 =>
  (idx (IntKind.wrap .i64 (Int.fdiv (IntKind.wrap .u64 (IntKind.wrap .i64 (x4q7 + x4q8))) (2 ^ min (1 : Int).toNat (IntKind.bits .u64)))) p0.length).bind fun j317 =>
  (p0[j317]?).bind fun v318 =>
  (bif (p4d [Q.i v316, Q.i v318]) then
  (bif (!(decide (((p4g [Q.i v316, Q.i v318]) : Int) < 0))) then
  L4 fuel n4 (t4 p1 p2 p3 p4d p4g p0 ((IntKind.wrap .i64 ((IntKind.wrap .i64 (Int.fdiv (IntKind.wrap .u64 (IntKind.wrap .i64 (x4q7 + x4q8))) (2 ^ min (1 : Int).toNat (IntKind.bits .u64)))) + 1))) x4q8) (k4  fuel)
  else
  L4 fuel n4 (t4 p1 p2 p3 p4d p4g p0 x4q7 ((IntKind.wrap .i64 (Int.fdiv (IntKind.wrap .u64 (IntKind.wrap .i64 (x4q7 + x4q8))) (2 ^ min (1 : Int).toNat (IntKind.bits .u64)))))) (k4  fuel))
  else
  none)
  else
  (bif (decide ((x4q7 : Int) < p2)) then
  (bif (decide ((p2 : Int) < (IntKind.wrap .i64 ((IntKind.wrap .i64 ((IntKind.wrap .i64 (Int.fdiv (IntKind.wrap .u64 (IntKind.wrap .i64 (p1 + p3))) (2 ^ min (1 : Int).toNat (IntKind.bits .u64)))) + p2)) - x4q7)))) then
  L5 fuel fuel (t5 p2 p4d p4g p1 p3 x4q7 ((IntKind.wrap .i64 (p2 - x4q7))) ((IntKind.wrap .i64 ((IntKind.wrap .i64 ((IntKind.wrap .i64 ((IntKind.wrap .i64 (Int.fdiv (IntKind.wrap .u64 (IntKind.wrap .i64 (p1 + p3))) (2 ^ min (1 : Int).toNat (IntKind.bits .u64)))) + p2)) - x4q7)) - p2))) p0) (k5  fuel)
  else
  (bif (decide ((p1 : Int) < x4q7)) then
  (bif (decide ((x4q7 : Int) < (IntKind.wrap .i64 (Int.fdiv (IntKind.wrap .u64 (IntKind.wrap .i64 (p1 + p3))) (2 ^ min (1 : Int).toNat (IntKind.bits .u64)))))) then
  (bif decide ((p0 : List Int).length ≤ 60) && domA p4d p0 && upW p4g p0 && decide (0 ≤ p1) && decide (p1 < x4q7) && decide (x4q7 < ((IntKind.wrap .i64 (Int.fdiv (IntKind.wrap .u64 (IntKind.wrap .i64 (p1 + p3))) (2 ^ min (1 : Int).toNat (IntKind.bits .u64)))))) && decide (((IntKind.wrap .i64 (Int.fdiv (IntKind.wrap .u64 (IntKind.wrap .i64 (p1 + p3))) (2 ^ min (1 : Int).toNat (IntKind.bits .u64))))) ≤ (((p0 : List Int).length : Nat) : Int)) && decide (((IntKind.wrap .i64 (Int.fdiv (IntKind.wrap .u64 (IntKind.wrap .i64 (p1 + p3))) (2 ^ min (1 : Int).toNat (IntKind.bits .u64))))) - p1 ≤ 32) then
  (bif (decide (((IntKind.wrap .i64 (Int.fdiv (IntKind.wrap .u64 (IntKind.wrap .i64 (p1 + p3))) (2 ^ min (1 : Int).toNat (IntKind.bits .u64)))) : Int) < (IntKind.wrap .i64 ((IntKind.wrap .i64 ((IntKind.wrap .i64 (Int.fdiv (IntKind.wrap .u64 (IntKind.wrap .i64 (p1 + p3))) (2 ^ min (1 : Int).toNat (IntKind.bits .u64)))) + p2)) - x4q7)))) then
  (bif (decide (((IntKind.wrap .i64 ((IntKind.wrap .i64 ((IntKind.wrap .i64 (Int.fdiv (IntKind.wrap .u64 (IntKind.wrap .i64 (p1 + p3))) (2 ^ min (1 : Int).toNat (IntKind.bits .u64)))) + p2)) - x4q7)) : Int) < p3)) then
  (bif decide ((p0 : List Int).length ≤ 60) && domA p4d p0 && upW p4g p0 && decide (0 ≤ ((IntKind.wrap .i64 (Int.fdiv (IntKind.wrap .u64 (IntKind.wrap .i64 (p1 + p3))) (2 ^ min (1 : Int).toNat (IntKind.bits .u64)))))) && decide (((IntKind.wrap .i64 (Int.fdiv (IntKind.wrap .u64 (IntKind.wrap .i64 (p1 + p3))) (2 ^ min (1 : Int).toNat (IntKind.bits .u64))))) < ((IntKind.wrap .i64 ((IntKind.wrap .i64 ((IntKind.wrap .i64 (Int.fdiv (IntKind.wrap .u64 (IntKind.wrap .i64 (p1 + p3))) (2 ^ min (1 : Int).toNat (IntKind.bits .u64)))) + p2)) - x4q7)))) && decide (((IntKind.wrap .i64 ((IntKind.wrap .i64 ((IntKind.wrap .i64 (Int.fdiv (IntKind.wrap .u64 (IntKind.wrap .i64 (p1 + p3))) (2 ^ min (1 : Int).toNat (IntKind.bits .u64)))) + p2)) - x4q7))) < p3) && decide (p3 ≤ (((p0 : List Int).length : Nat) : Int)) && decide (p3 - ((IntKind.wrap .i64 (Int.fdiv (IntKind.wrap .u64 (IntKind.wrap .i64 (p1 + p3))) (2 ^ min (1 : Int).toNat (IntKind.bits .u64))))) ≤ 32) then
  some ([], [[(.ints .i64 p0)]])
  else
  none)
  else
  some ([], [[(.ints .i64 p0)]]))
  else
  some ([], [[(.ints .i64 p0)]]))
  else
  none)
  else
  (bif (decide (((IntKind.wrap .i64 (Int.fdiv (IntKind.wrap .u64 (IntKind.wrap .i64 (p1 + p3))) (2 ^ min (1 : Int).toNat (IntKind.bits .u64)))) : Int) < (IntKind.wrap .i64 ((IntKind.wrap .i64 ((IntKind.wrap .i64 (Int.fdiv (IntKind.wrap .u64 (IntKind.wrap .i64 (p1 + p3))) (2 ^ min (1 : Int).toNat (IntKind.bits .u64)))) + p2)) - x4q7)))) then
  (bif (decide (((IntKind.wrap .i64 ((IntKind.wrap .i64 ((IntKind.wrap .i64 (Int.fdiv (IntKind.wrap .u64 (IntKind.wrap .i64 (p1 + p3))) (2 ^ min (1 : Int).toNat (IntKind.bits .u64)))) + p2)) - x4q7)) : Int) < p3)) then
  (bif decide ((p0 : List Int).length ≤ 60) && domA p4d p0 && upW p4g p0 && decide (0 ≤ ((IntKind.wrap .i64 (Int.fdiv (IntKind.wrap .u64 (IntKind.wrap .i64 (p1 + p3))) (2 ^ min (1 : Int).toNat (IntKind.bits .u64)))))) && decide (((IntKind.wrap .i64 (Int.fdiv (IntKind.wrap .u64 (IntKind.wrap .i64 (p1 + p3))) (2 ^ min (1 : Int).toNat (IntKind.bits .u64))))) < ((IntKind.wrap .i64 ((IntKind.wrap .i64 ((IntKind.wrap .i64 (Int.fdiv (IntKind.wrap .u64 (IntKind.wrap .i64 (p1 + p3))) (2 ^ min (1 : Int).toNat (IntKind.bits .u64)))) + p2)) - x4q7)))) && decide (((IntKind.wrap .i64 ((IntKind.wrap .i64 ((IntKind.wrap .i64 (Int.fdiv (IntKind.wrap .u64 (IntKind.wrap .i64 (p1 + p3))) (2 ^ min (1 : Int).toNat (IntKind.bits .u64)))) + p2)) - x4q7))) < p3) && decide (p3 ≤ (((p0 : List Int).length : Nat) : Int)) && decide (p3 - ((IntKind.wrap .i64 (Int.fdiv (IntKind.wrap .u64 (IntKind.wrap .i64 (p1 + p3))) (2 ^ min (1 : Int).toNat (IntKind.bits .u64))))) ≤ 32) then
  some ([], [[(.ints .i64 p0)]])
  else
  none)
  else
  some ([], [[(.ints .i64 p0)]]))
  else
  some ([], [[(.ints .i64 p0)]])))
  else
  (bif (decide (((IntKind.wrap .i64 (Int.fdiv (IntKind.wrap .u64 (IntKind.wrap .i64 (p1 + p3))) (2 ^ min (1 : Int).toNat (IntKind.bits .u64)))) : Int) < (IntKind.wrap .i64 ((IntKind.wrap .i64 ((IntKind.wrap .i64 (Int.fdiv (IntKind.wrap .u64 (IntKind.wrap .i64 (p1 + p3))) (2 ^ min (1 : Int).toNat (IntKind.bits .u64)))) + p2)) - x4q7)))) then
  (bif (decide (((IntKind.wrap .i64 ((IntKind.wrap .i64 ((IntKind.wrap .i64 (Int.fdiv (IntKind.wrap .u64 (IntKind.wrap .i64 (p1 + p3))) (2 ^ min (1 : Int).toNat (IntKind.bits .u64)))) + p2)) - x4q7)) : Int) < p3)) then
  (bif decide ((p0 : List Int).length ≤ 60) && domA p4d p0 && upW p4g p0 && decide (0 ≤ ((IntKind.wrap .i64 (Int.fdiv (IntKind.wrap .u64 (IntKind.wrap .i64 (p1 + p3))) (2 ^ min (1 : Int).toNat (IntKind.bits .u64)))))) && decide (((IntKind.wrap .i64 (Int.fdiv (IntKind.wrap .u64 (IntKind.wrap .i64 (p1 + p3))) (2 ^ min (1 : Int).toNat (IntKind.bits .u64))))) < ((IntKind.wrap .i64 ((IntKind.wrap .i64 ((IntKind.wrap .i64 (Int.fdiv (IntKind.wrap .u64 (IntKind.wrap .i64 (p1 + p3))) (2 ^ min (1 : Int).toNat (IntKind.bits .u64)))) + p2)) - x4q7)))) && decide (((IntKind.wrap .i64 ((IntKind.wrap .i64 ((IntKind.wrap .i64 (Int.fdiv (IntKind.wrap .u64 (IntKind.wrap .i64 (p1 + p3))) (2 ^ min (1 : Int).toNat (IntKind.bits .u64)))) + p2)) - x4q7))) < p3) && decide (p3 ≤ (((p0 : List Int).length : Nat) : Int)) && decide (p3 - ((IntKind.wrap .i64 (Int.fdiv (IntKind.wrap .u64 (IntKind.wrap .i64 (p1 + p3))) (2 ^ min (1 : Int).toNat (IntKind.bits .u64))))) ≤ 32) then
  some ([], [[(.ints .i64 p0)]])
  else
  none)
  else
  some ([], [[(.ints .i64 p0)]]))
  else
  some ([], [[(.ints .i64 p0)]]))))
  else
  (bif (decide ((p1 : Int) < x4q7)) then
  (bif (decide ((x4q7 : Int) < (IntKind.wrap .i64 (Int.fdiv (IntKind.wrap .u64 (IntKind.wrap .i64 (p1 + p3))) (2 ^ min (1 : Int).toNat (IntKind.bits .u64)))))) then
  (bif decide ((p0 : List Int).length ≤ 60) && domA p4d p0 && upW p4g p0 && decide (0 ≤ p1) && decide (p1 < x4q7) && decide (x4q7 < ((IntKind.wrap .i64 (Int.fdiv (IntKind.wrap .u64 (IntKind.wrap .i64 (p1 + p3))) (2 ^ min (1 : Int).toNat (IntKind.bits .u64)))))) && decide (((IntKind.wrap .i64 (Int.fdiv (IntKind.wrap .u64 (IntKind.wrap .i64 (p1 + p3))) (2 ^ min (1 : Int).toNat (IntKind.bits .u64))))) ≤ (((p0 : List Int).length : Nat) : Int)) && decide (((IntKind.wrap .i64 (Int.fdiv (IntKind.wrap .u64 (IntKind.wrap .i64 (p1 + p3))) (2 ^ min (1 : Int).toNat (IntKind.bits .u64))))) - p1 ≤ 32) then
  (bif (decide (((IntKind.wrap .i64 (Int.fdiv (IntKind.wrap .u64 (IntKind.wrap .i64 (p1 + p3))) (2 ^ min (1 : Int).toNat (IntKind.bits .u64)))) : Int) < (IntKind.wrap .i64 ((IntKind.wrap .i64 ((IntKind.wrap .i64 (Int.fdiv (IntKind.wrap .u64 (IntKind.wrap .i64 (p1 + p3))) (2 ^ min (1 : Int).toNat (IntKind.bits .u64)))) + p2)) - x4q7)))) then
  (bif (decide (((IntKind.wrap .i64 ((IntKind.wrap .i64 ((IntKind.wrap .i64 (Int.fdiv (IntKind.wrap .u64 (IntKind.wrap .i64 (p1 + p3))) (2 ^ min (1 : Int).toNat (IntKind.bits .u64)))) + p2)) - x4q7)) : Int) < p3)) then
  (bif decide ((p0 : List Int).length ≤ 60) && domA p4d p0 && upW p4g p0 && decide (0 ≤ ((IntKind.wrap .i64 (Int.fdiv (IntKind.wrap .u64 (IntKind.wrap .i64 (p1 + p3))) (2 ^ min (1 : Int).toNat (IntKind.bits .u64)))))) && decide (((IntKind.wrap .i64 (Int.fdiv (IntKind.wrap .u64 (IntKind.wrap .i64 (p1 + p3))) (2 ^ min (1 : Int).toNat (IntKind.bits .u64))))) < ((IntKind.wrap .i64 ((IntKind.wrap .i64 ((IntKind.wrap .i64 (Int.fdiv (IntKind.wrap .u64 (IntKind.wrap .i64 (p1 + p3))) (2 ^ min (1 : Int).toNat (IntKind.bits .u64)))) + p2)) - x4q7)))) && decide (((IntKind.wrap .i64 ((IntKind.wrap .i64 ((IntKind.wrap .i64 (Int.fdiv (IntKind.wrap .u64 (IntKind.wrap .i64 (p1 + p3))) (2 ^ min (1 : Int).toNat (IntKind.bits .u64)))) + p2)) - x4q7))) < p3) && decide (p3 ≤ (((p0 : List Int).length : Nat) : Int)) && decide (p3 - ((IntKind.wrap .i64 (Int.fdiv (IntKind.wrap .u64 (IntKind.wrap .i64 (p1 + p3))) (2 ^ min (1 : Int).toNat (IntKind.bits .u64))))) ≤ 32) then
  some ([], [[(.ints .i64 p0)]])
  else
  none)
  else
  some ([], [[(.ints .i64 p0)]]))
  else
  some ([], [[(.ints .i64 p0)]]))
  else
  none)
  else
  (bif (decide (((IntKind.wrap .i64 (Int.fdiv (IntKind.wrap .u64 (IntKind.wrap .i64 (p1 + p3))) (2 ^ min (1 : Int).toNat (IntKind.bits .u64)))) : Int) < (IntKind.wrap .i64 ((IntKind.wrap .i64 ((IntKind.wrap .i64 (Int.fdiv (IntKind.wrap .u64 (IntKind.wrap .i64 (p1 + p3))) (2 ^ min (1 : Int).toNat (IntKind.bits .u64)))) + p2)) - x4q7)))) then
  (bif (decide (((IntKind.wrap .i64 ((IntKind.wrap .i64 ((IntKind.wrap .i64 (Int.fdiv (IntKind.wrap .u64 (IntKind.wrap .i64 (p1 + p3))) (2 ^ min (1 : Int).toNat (IntKind.bits .u64)))) + p2)) - x4q7)) : Int) < p3)) then
  (bif decide ((p0 : List Int).length ≤ 60) && domA p4d p0 && upW p4g p0 && decide (0 ≤ ((IntKind.wrap .i64 (Int.fdiv (IntKind.wrap .u64 (IntKind.wrap .i64 (p1 + p3))) (2 ^ min (1 : Int).toNat (IntKind.bits .u64)))))) && decide (((IntKind.wrap .i64 (Int.fdiv (IntKind.wrap .u64 (IntKind.wrap .i64 (p1 + p3))) (2 ^ min (1 : Int).toNat (IntKind.bits .u64))))) < ((IntKind.wrap .i64 ((IntKind.wrap .i64 ((IntKind.wrap .i64 (Int.fdiv (IntKind.wrap .u64 (IntKind.wrap .i64 (p1 + p3))) (2 ^ min (1 : Int).toNat (IntKind.bits .u64)))) + p2)) - x4q7)))) && decide (((IntKind.wrap .i64 ((IntKind.wrap .i64 ((IntKind.wrap .i64 (Int.fdiv (IntKind.wrap .u64 (IntKind.wrap .i64 (p1 + p3))) (2 ^ min (1 : Int).toNat (IntKind.bits .u64)))) + p2)) - x4q7))) < p3) && decide (p3 ≤ (((p0 : List Int).length : Nat) : Int)) && decide (p3 - ((IntKind.wrap .i64 (Int.fdiv (IntKind.wrap .u64 (IntKind.wrap .i64 (p1 + p3))) (2 ^ min (1 : Int).toNat (IntKind.bits .u64))))) ≤ 32) then
  some ([], [[(.ints .i64 p0)]])
  else
  none)
  else
  some ([], [[(.ints .i64 p0)]]))
  else
  some ([], [[(.ints .i64 p0)]])))
  else
  (bif (decide (((IntKind.wrap .i64 (Int.fdiv (IntKind.wrap .u64 (IntKind.wrap .i64 (p1 + p3))) (2 ^ min (1 : Int).toNat (IntKind.bits .u64)))) : Int) < (IntKind.wrap .i64 ((IntKind.wrap .i64 ((IntKind.wrap .i64 (Int.fdiv (IntKind.wrap .u64 (IntKind.wrap .i64 (p1 + p3))) (2 ^ min (1 : Int).toNat (IntKind.bits .u64)))) + p2)) - x4q7)))) then
  (bif (decide (((IntKind.wrap .i64 ((IntKind.wrap .i64 ((IntKind.wrap .i64 (Int.fdiv (IntKind.wrap .u64 (IntKind.wrap .i64 (p1 + p3))) (2 ^ min (1 : Int).toNat (IntKind.bits .u64)))) + p2)) - x4q7)) : Int) < p3)) then
  (bif decide ((p0 : List Int).length ≤ 60) && domA p4d p0 && upW p4g p0 && decide (0 ≤ ((IntKind.wrap .i64 (Int.fdiv (IntKind.wrap .u64 (IntKind.wrap .i64 (p1 + p3))) (2 ^ min (1 : Int).toNat (IntKind.bits .u64)))))) && decide (((IntKind.wrap .i64 (Int.fdiv (IntKind.wrap .u64 (IntKind.wrap .i64 (p1 + p3))) (2 ^ min (1 : Int).toNat (IntKind.bits .u64))))) < ((IntKind.wrap .i64 ((IntKind.wrap .i64 ((IntKind.wrap .i64 (Int.fdiv (IntKind.wrap .u64 (IntKind.wrap .i64 (p1 + p3))) (2 ^ min (1 : Int).toNat (IntKind.bits .u64)))) + p2)) - x4q7)))) && decide (((IntKind.wrap .i64 ((IntKind.wrap .i64 ((IntKind.wrap .i64 (Int.fdiv (IntKind.wrap .u64 (IntKind.wrap .i64 (p1 + p3))) (2 ^ min (1 : Int).toNat (IntKind.bits .u64)))) + p2)) - x4q7))) < p3) && decide (p3 ≤ (((p0 : List Int).length : Nat) : Int)) && decide (p3 - ((IntKind.wrap .i64 (Int.fdiv (IntKind.wrap .u64 (IntKind.wrap .i64 (p1 + p3))) (2 ^ min (1 : Int).toNat (IntKind.bits .u64))))) ≤ 32) then
  some ([], [[(.ints .i64 p0)]])
  else
  none)
  else
  some ([], [[(.ints .i64 p0)]]))
  else
  some ([], [[(.ints .i64 p0)]]))))) := by kernel_rfl
theorem s5 (fuel n5 : Nat) (p2 : Int) (p4d : List Q → Bool) (p4g : List Q → Int) (p1 : Int) (p3 : Int) (x4q7 : Int) (x5q3 : Int) (x5q4 : Int) (x5q5 : List Int) : L5 fuel (n5 + 1) (t5 p2 p4d p4g p1 p3 x4q7 x5q3 x5q4 x5q5) (k5  fuel) =
  (bif ((x5q3 : Int) != x5q4) then
  (bif (decide ((x5q3 : Int) > x5q4)) then
  L6 fuel fuel (t6 p2 x5q3 x5q4 p4d p4g p1 p3 x4q7 0 x5q5) (k6 n5 fuel)
  else
  L7 fuel fuel (t7 p2 x5q3 x5q4 p4d p4g p1 p3 x4q7 0 x5q5) (k7 n5 fuel))
  else
  L8 fuel fuel (t8 p2 x5q3 p4d p4g p1 p3 x4q7 0 x5q5) (k8  fuel)) := by kernel_rfl
theorem s6 (fuel n5 n6 : Nat) (p2 : Int) (x5q3 : Int) (x5q4 : Int) (p4d : List Q → Bool) (p4g : List Q → Int) (p1 : Int) (p3 : Int) (x4q7 : Int) (x6q3 : Int) (x6q4 : List Int) : L6 fuel (n6 + 1) (t6 p2 x5q3 x5q4 p4d p4g p1 p3 x4q7 x6q3 x6q4) (k6 n5 fuel) =
  (bif (decide ((x6q3 : Int) < x5q4)) then
  (idx (IntKind.wrap .i64 (p2 + x6q3)) x6q4.length).bind fun j361 =>
  (x6q4[j361]?).bind fun v362 =>
  (idx (IntKind.wrap .i64 ((IntKind.wrap .i64 (p2 - x5q3)) + x6q3)) x6q4.length).bind fun j363 =>
  (x6q4[j363]?).bind fun v364 =>
  (idx (IntKind.wrap .i64 ((IntKind.wrap .i64 (p2 - x5q3)) + x6q3)) x6q4.length).bind fun j365 =>
  (bif decide (j365 < x6q4.length) then
  (idx (IntKind.wrap .i64 (p2 + x6q3)) (x6q4.set j365 v362).length).bind fun j366 =>
  (bif decide (j366 < (x6q4.set j365 v362).length) then
  L6 fuel n6 (t6 p2 x5q3 x5q4 p4d p4g p1 p3 x4q7 ((IntKind.wrap .i64 (x6q3 + 1))) (((x6q4.set j365 v362).set j366 v364))) (k6 n5 fuel)
  else
  none)
  else
  none)
  else
  L5 fuel n5 (t5 p2 p4d p4g p1 p3 x4q7 ((IntKind.wrap .i64 (x5q3 - x5q4))) x5q4 x6q4) (k5  fuel)) := by kernel_rfl
theorem s7 (fuel n5 n7 : Nat) (p2 : Int) (x5q3 : Int) (x5q4 : Int) (p4d : List Q → Bool) (p4g : List Q → Int) (p1 : Int) (p3 : Int) (x4q7 : Int) (x7q3 : Int) (x7q4 : List Int) : L7 fuel (n7 + 1) (t7 p2 x5q3 x5q4 p4d p4g p1 p3 x4q7 x7q3 x7q4) (k7 n5 fuel) =
  (bif (decide ((x7q3 : Int) < x5q3)) then
  (idx (IntKind.wrap .i64 ((IntKind.wrap .i64 ((IntKind.wrap .i64 (p2 + x5q4)) - x5q3)) + x7q3)) x7q4.length).bind fun j373 =>
  (x7q4[j373]?).bind fun v374 =>
  (idx (IntKind.wrap .i64 ((IntKind.wrap .i64 (p2 - x5q3)) + x7q3)) x7q4.length).bind fun j375 =>
  (x7q4[j375]?).bind fun v376 =>
  (idx (IntKind.wrap .i64 ((IntKind.wrap .i64 (p2 - x5q3)) + x7q3)) x7q4.length).bind fun j377 =>
  (bif decide (j377 < x7q4.length) then
  (idx (IntKind.wrap .i64 ((IntKind.wrap .i64 ((IntKind.wrap .i64 (p2 + x5q4)) - x5q3)) + x7q3)) (x7q4.set j377 v374).length).bind fun j378 =>
  (bif decide (j378 < (x7q4.set j377 v374).length) then
  L7 fuel n7 (t7 p2 x5q3 x5q4 p4d p4g p1 p3 x4q7 ((IntKind.wrap .i64 (x7q3 + 1))) (((x7q4.set j377 v374).set j378 v376))) (k7 n5 fuel)
  else
  none)
  else
  none)
  else
  L5 fuel n5 (t5 p2 p4d p4g p1 p3 x4q7 x5q3 ((IntKind.wrap .i64 (x5q4 - x5q3))) x7q4) (k5  fuel)) := by kernel_rfl
theorem s8 (fuel n8 : Nat) (p2 : Int) (x5q3 : Int) (p4d : List Q → Bool) (p4g : List Q → Int) (p1 : Int) (p3 : Int) (x4q7 : Int) (x8q3 : Int) (x8q4 : List Int) : L8 fuel (n8 + 1) (t8 p2 x5q3 p4d p4g p1 p3 x4q7 x8q3 x8q4) (k8  fuel) =
  (bif (decide ((x8q3 : Int) < x5q3)) then
  (idx (IntKind.wrap .i64 (p2 + x8q3)) x8q4.length).bind fun j385 =>
  (x8q4[j385]?).bind fun v386 =>
  (idx (IntKind.wrap .i64 ((IntKind.wrap .i64 (p2 - x5q3)) + x8q3)) x8q4.length).bind fun j387 =>
  (x8q4[j387]?).bind fun v388 =>
  (idx (IntKind.wrap .i64 ((IntKind.wrap .i64 (p2 - x5q3)) + x8q3)) x8q4.length).bind fun j389 =>
  (bif decide (j389 < x8q4.length) then
  (idx (IntKind.wrap .i64 (p2 + x8q3)) (x8q4.set j389 v386).length).bind fun j390 =>
  (bif decide (j390 < (x8q4.set j389 v386).length) then
  L8 fuel n8 (t8 p2 x5q3 p4d p4g p1 p3 x4q7 ((IntKind.wrap .i64 (x8q3 + 1))) (((x8q4.set j389 v386).set j390 v388))) (k8  fuel)
  else
  none)
  else
  none)
  else
  (bif (decide ((p1 : Int) < x4q7)) then
  (bif (decide ((x4q7 : Int) < (IntKind.wrap .i64 (Int.fdiv (IntKind.wrap .u64 (IntKind.wrap .i64 (p1 + p3))) (2 ^ min (1 : Int).toNat (IntKind.bits .u64)))))) then
  (bif decide ((x8q4 : List Int).length ≤ 60) && domA p4d x8q4 && upW p4g x8q4 && decide (0 ≤ p1) && decide (p1 < x4q7) && decide (x4q7 < ((IntKind.wrap .i64 (Int.fdiv (IntKind.wrap .u64 (IntKind.wrap .i64 (p1 + p3))) (2 ^ min (1 : Int).toNat (IntKind.bits .u64)))))) && decide (((IntKind.wrap .i64 (Int.fdiv (IntKind.wrap .u64 (IntKind.wrap .i64 (p1 + p3))) (2 ^ min (1 : Int).toNat (IntKind.bits .u64))))) ≤ (((x8q4 : List Int).length : Nat) : Int)) && decide (((IntKind.wrap .i64 (Int.fdiv (IntKind.wrap .u64 (IntKind.wrap .i64 (p1 + p3))) (2 ^ min (1 : Int).toNat (IntKind.bits .u64))))) - p1 ≤ 32) then
  (bif (decide (((IntKind.wrap .i64 (Int.fdiv (IntKind.wrap .u64 (IntKind.wrap .i64 (p1 + p3))) (2 ^ min (1 : Int).toNat (IntKind.bits .u64)))) : Int) < (IntKind.wrap .i64 ((IntKind.wrap .i64 ((IntKind.wrap .i64 (Int.fdiv (IntKind.wrap .u64 (IntKind.wrap .i64 (p1 + p3))) (2 ^ min (1 : Int).toNat (IntKind.bits .u64)))) + p2)) - x4q7)))) then
  (bif (decide (((IntKind.wrap .i64 ((IntKind.wrap .i64 ((IntKind.wrap .i64 (Int.fdiv (IntKind.wrap .u64 (IntKind.wrap .i64 (p1 + p3))) (2 ^ min (1 : Int).toNat (IntKind.bits .u64)))) + p2)) - x4q7)) : Int) < p3)) then
  (bif decide ((x8q4 : List Int).length ≤ 60) && domA p4d x8q4 && upW p4g x8q4 && decide (0 ≤ ((IntKind.wrap .i64 (Int.fdiv (IntKind.wrap .u64 (IntKind.wrap .i64 (p1 + p3))) (2 ^ min (1 : Int).toNat (IntKind.bits .u64)))))) && decide (((IntKind.wrap .i64 (Int.fdiv (IntKind.wrap .u64 (IntKind.wrap .i64 (p1 + p3))) (2 ^ min (1 : Int).toNat (IntKind.bits .u64))))) < ((IntKind.wrap .i64 ((IntKind.wrap .i64 ((IntKind.wrap .i64 (Int.fdiv (IntKind.wrap .u64 (IntKind.wrap .i64 (p1 + p3))) (2 ^ min (1 : Int).toNat (IntKind.bits .u64)))) + p2)) - x4q7)))) && decide (((IntKind.wrap .i64 ((IntKind.wrap .i64 ((IntKind.wrap .i64 (Int.fdiv (IntKind.wrap .u64 (IntKind.wrap .i64 (p1 + p3))) (2 ^ min (1 : Int).toNat (IntKind.bits .u64)))) + p2)) - x4q7))) < p3) && decide (p3 ≤ (((x8q4 : List Int).length : Nat) : Int)) && decide (p3 - ((IntKind.wrap .i64 (Int.fdiv (IntKind.wrap .u64 (IntKind.wrap .i64 (p1 + p3))) (2 ^ min (1 : Int).toNat (IntKind.bits .u64))))) ≤ 32) then
  some ([], [[(.ints .i64 x8q4)]])
  else
  none)
  else
  some ([], [[(.ints .i64 x8q4)]]))
  else
  some ([], [[(.ints .i64 x8q4)]]))
  else
  none)
  else
  (bif (decide (((IntKind.wrap .i64 (Int.fdiv (IntKind.wrap .u64 (IntKind.wrap .i64 (p1 + p3))) (2 ^ min (1 : Int).toNat (IntKind.bits .u64)))) : Int) < (IntKind.wrap .i64 ((IntKind.wrap .i64 ((IntKind.wrap .i64 (Int.fdiv (IntKind.wrap .u64 (IntKind.wrap .i64 (p1 + p3))) (2 ^ min (1 : Int).toNat (IntKind.bits .u64)))) + p2)) - x4q7)))) then
  (bif (decide (((IntKind.wrap .i64 ((IntKind.wrap .i64 ((IntKind.wrap .i64 (Int.fdiv (IntKind.wrap .u64 (IntKind.wrap .i64 (p1 + p3))) (2 ^ min (1 : Int).toNat (IntKind.bits .u64)))) + p2)) - x4q7)) : Int) < p3)) then
  (bif decide ((x8q4 : List Int).length ≤ 60) && domA p4d x8q4 && upW p4g x8q4 && decide (0 ≤ ((IntKind.wrap .i64 (Int.fdiv (IntKind.wrap .u64 (IntKind.wrap .i64 (p1 + p3))) (2 ^ min (1 : Int).toNat (IntKind.bits .u64)))))) && decide (((IntKind.wrap .i64 (Int.fdiv (IntKind.wrap .u64 (IntKind.wrap .i64 (p1 + p3))) (2 ^ min (1 : Int).toNat (IntKind.bits .u64))))) < ((IntKind.wrap .i64 ((IntKind.wrap .i64 ((IntKind.wrap .i64 (Int.fdiv (IntKind.wrap .u64 (IntKind.wrap .i64 (p1 + p3))) (2 ^ min (1 : Int).toNat (IntKind.bits .u64)))) + p2)) - x4q7)))) && decide (((IntKind.wrap .i64 ((IntKind.wrap .i64 ((IntKind.wrap .i64 (Int.fdiv (IntKind.wrap .u64 (IntKind.wrap .i64 (p1 + p3))) (2 ^ min (1 : Int).toNat (IntKind.bits .u64)))) + p2)) - x4q7))) < p3) && decide (p3 ≤ (((x8q4 : List Int).length : Nat) : Int)) && decide (p3 - ((IntKind.wrap .i64 (Int.fdiv (IntKind.wrap .u64 (IntKind.wrap .i64 (p1 + p3))) (2 ^ min (1 : Int).toNat (IntKind.bits .u64))))) ≤ 32) then
  some ([], [[(.ints .i64 x8q4)]])
  else
  none)
  else
  some ([], [[(.ints .i64 x8q4)]]))
  else
  some ([], [[(.ints .i64 x8q4)]])))
  else
  (bif (decide (((IntKind.wrap .i64 (Int.fdiv (IntKind.wrap .u64 (IntKind.wrap .i64 (p1 + p3))) (2 ^ min (1 : Int).toNat (IntKind.bits .u64)))) : Int) < (IntKind.wrap .i64 ((IntKind.wrap .i64 ((IntKind.wrap .i64 (Int.fdiv (IntKind.wrap .u64 (IntKind.wrap .i64 (p1 + p3))) (2 ^ min (1 : Int).toNat (IntKind.bits .u64)))) + p2)) - x4q7)))) then
  (bif (decide (((IntKind.wrap .i64 ((IntKind.wrap .i64 ((IntKind.wrap .i64 (Int.fdiv (IntKind.wrap .u64 (IntKind.wrap .i64 (p1 + p3))) (2 ^ min (1 : Int).toNat (IntKind.bits .u64)))) + p2)) - x4q7)) : Int) < p3)) then
  (bif decide ((x8q4 : List Int).length ≤ 60) && domA p4d x8q4 && upW p4g x8q4 && decide (0 ≤ ((IntKind.wrap .i64 (Int.fdiv (IntKind.wrap .u64 (IntKind.wrap .i64 (p1 + p3))) (2 ^ min (1 : Int).toNat (IntKind.bits .u64)))))) && decide (((IntKind.wrap .i64 (Int.fdiv (IntKind.wrap .u64 (IntKind.wrap .i64 (p1 + p3))) (2 ^ min (1 : Int).toNat (IntKind.bits .u64))))) < ((IntKind.wrap .i64 ((IntKind.wrap .i64 ((IntKind.wrap .i64 (Int.fdiv (IntKind.wrap .u64 (IntKind.wrap .i64 (p1 + p3))) (2 ^ min (1 : Int).toNat (IntKind.bits .u64)))) + p2)) - x4q7)))) && decide (((IntKind.wrap .i64 ((IntKind.wrap .i64 ((IntKind.wrap .i64 (Int.fdiv (IntKind.wrap .u64 (IntKind.wrap .i64 (p1 + p3))) (2 ^ min (1 : Int).toNat (IntKind.bits .u64)))) + p2)) - x4q7))) < p3) && decide (p3 ≤ (((x8q4 : List Int).length : Nat) : Int)) && decide (p3 - ((IntKind.wrap .i64 (Int.fdiv (IntKind.wrap .u64 (IntKind.wrap .i64 (p1 + p3))) (2 ^ min (1 : Int).toNat (IntKind.bits .u64))))) ≤ 32) then
  some ([], [[(.ints .i64 x8q4)]])
  else
  none)
  else
  some ([], [[(.ints .i64 x8q4)]]))
  else
  some ([], [[(.ints .i64 x8q4)]])))) := by kernel_rfl
end slices_symMergeCmpFunc_int_u6
theorem slices_symMergeCmpFunc_int_u6.ok_of (hX : ∀ E ∈ slices_symMergeCmpFunc_int_u6.X, CallSpec Try.prog E) (h : ∀ (xs : List Int) (a : Int) (m : Int) (b : Int) (dom : List Q → Bool) (G : List Q → Int), (decide ((xs : List Int).length ≤ 60) && domA dom xs && upW G xs && decide (0 ≤ a) && decide (a < m) && decide (m < b) && decide (b ≤ (((xs : List Int).length : Nat) : Int)) && decide (b - a ≤ 64)) = true → ∃ fuel, runF Try.prog slices_symMergeCmpFunc_int_u6.X slices_symMergeCmpFunc_int_u6.I 4 fuel 68 Try.f68 [.rows true [(.i64, xs)], .d (.int .i64 a), .d (.int .i64 m), .d (.int .i64 b), .d (.fn false dom G)] = some ([], [[(.ints .i64 xs)]])) : CallSpec Try.prog slices_symMergeCmpFunc_int_u6.E :=
  callSpec_of (d := 4) hX (by kernel_rfl) slices_symMergeCmpFunc_int_u6.I_ok (by kernel_rfl) (by kernel_rfl) (by kernel_rfl) (fun _ _ _ _ h => by dsimp only [slices_symMergeCmpFunc_int_u6.E] at h; cases h) (fun xs hp => by
    dsimp only [slices_symMergeCmpFunc_int_u6.E] at hp ⊢
    split at hp
    · exact h _ _ _ _ _ _ hp
    · cases hp)
theorem slices_symMergeCmpFunc_int_u6.left {F : Nat} {xs : List Int} {a m : Nat} {dom : List Q → Bool} {G : List Q → Int} (hd : domA dom xs = true) (hu : upW G xs = true) (hl : xs.length ≤ 60) (hm : m = a + 1) (hF : 200 < F) : ∀ (d n j : Nat), j - m ≤ d → m ≤ j → j ≤ xs.length → d < n →
    slices_symMergeCmpFunc_int_u6.L0 F n (slices_symMergeCmpFunc_int_u6.t0 (a : Int) dom G xs (m : Int) (j : Int)) (slices_symMergeCmpFunc_int_u6.k0 F) = some ([], [[(.ints .i64 xs)]]) := by
  intro d
  induction d with
  | zero =>
    intro n j h1 h2 h3 h4
    obtain ⟨n, rfl⟩ : ∃ k, n = k + 1 := ⟨n - 1, by omega⟩
    obtain ⟨f, rfl⟩ : ∃ k, F = k + 1 := ⟨F - 1, by omega⟩
    rw [slices_symMergeCmpFunc_int_u6.s0, decide_eq_false (by omega), cond_false, slices_symMergeCmpFunc_int_u6.s1, wS (by omega) (by omega), decide_eq_false (by omega)]
    rfl
  | succ d ih =>
    intro n j h1 h2 h3 h4
    obtain ⟨n, rfl⟩ : ∃ k, n = k + 1 := ⟨n - 1, by omega⟩
    by_cases hj : m < j
    · have hh : (m + j) / 2 < xs.length := by omega
      have ha : a < xs.length := by omega
      have hdm := domA_get hd (mem_getD hh) (mem_getD ha)
      have hup := up_get hu (i := a) (j := (m + j) / 2) (by omega) hh
      rw [slices_symMergeCmpFunc_int_u6.s0, decide_eq_true (by omega), cond_true, halfW (by omega), idx_nat hh, idx_nat ha]
      simp only [Option.bind_some, getD_get hh, getD_get ha, hdm, hup, cond_true, cond_false]
      exact ih n ((m + j) / 2) (by omega) (by omega) (by omega) (by omega)
    · obtain ⟨f, rfl⟩ : ∃ k, F = k + 1 := ⟨F - 1, by omega⟩
      rw [slices_symMergeCmpFunc_int_u6.s0, decide_eq_false (by omega), cond_false, slices_symMergeCmpFunc_int_u6.s1, wS (by omega) (by omega), decide_eq_false (by omega)]
      rfl
theorem slices_symMergeCmpFunc_int_u6.right {F : Nat} {xs : List Int} {m : Nat} {dom : List Q → Bool} {G : List Q → Int} (hd : domA dom xs = true) (hu : upW G xs = true) (hl : xs.length ≤ 60) (hm : m < xs.length) (hF : 200 < F) : ∀ (d n i : Nat), m - i ≤ d → i ≤ m → d < n →
    slices_symMergeCmpFunc_int_u6.L2 F n (slices_symMergeCmpFunc_int_u6.t2 (m : Int) dom G xs (i : Int) (m : Int)) (slices_symMergeCmpFunc_int_u6.k2 F) = some ([], [[(.ints .i64 xs)]]) := by
  intro d
  induction d with
  | zero =>
    intro n i h1 h2 h4
    obtain ⟨n, rfl⟩ : ∃ k, n = k + 1 := ⟨n - 1, by omega⟩
    obtain ⟨f, rfl⟩ : ∃ k, F = k + 1 := ⟨F - 1, by omega⟩
    rw [slices_symMergeCmpFunc_int_u6.s2, decide_eq_false (by omega), cond_false, slices_symMergeCmpFunc_int_u6.s3, decide_eq_false (by omega)]
    rfl
  | succ d ih =>
    intro n i h1 h2 h4
    obtain ⟨n, rfl⟩ : ∃ k, n = k + 1 := ⟨n - 1, by omega⟩
    by_cases hj : i < m
    · have hh : (i + m) / 2 < xs.length := by omega
      have hdm := domA_get hd (mem_getD hm) (mem_getD hh)
      have hup := up_get hu (i := (i + m) / 2) (j := m) (by omega) hm
      rw [slices_symMergeCmpFunc_int_u6.s2, decide_eq_true (by omega), cond_true, halfW (by omega), idx_nat hh, idx_nat hm]
      simp only [Option.bind_some, getD_get hh, getD_get hm, hdm, hup, cond_true, Bool.not_false]
      rw [w1 (by omega)]
      exact ih n ((i + m) / 2 + 1) (by omega) (by omega) (by omega)
    · obtain ⟨f, rfl⟩ : ∃ k, F = k + 1 := ⟨F - 1, by omega⟩
      rw [slices_symMergeCmpFunc_int_u6.s2, decide_eq_false (by omega), cond_false, slices_symMergeCmpFunc_int_u6.s3, decide_eq_false (by omega)]
      rfl
theorem slices_symMergeCmpFunc_int_u6.seek {F : Nat} {xs : List Int} {a m b r : Nat} {dom : List Q → Bool} {G : List Q → Int} (hd : domA dom xs = true) (hu : upW G xs = true) (hl : xs.length ≤ 60) (hb : b ≤ xs.length) (ham : a + 1 < m) (hmb : m + 1 < b) (hsz : b ≤ a + 64) (hF : 200 < F)
    (hr : (m > (a + b) / 2 ∧ r = (a + b) / 2) ∨ (m ≤ (a + b) / 2 ∧ r = m)) : ∀ (d n s : Nat), r - s ≤ d → s ≤ r → (m ≤ (a + b) / 2 → a ≤ s) → (m > (a + b) / 2 → (a + b) / 2 + m ≤ s + b) → d < n →
    slices_symMergeCmpFunc_int_u6.L4 F n (slices_symMergeCmpFunc_int_u6.t4 (a : Int) (m : Int) (b : Int) dom G xs (s : Int) (r : Int)) (slices_symMergeCmpFunc_int_u6.k4 F) = some ([], [[(.ints .i64 xs)]]) := by
  have hfin : ∀ n : Nat, slices_symMergeCmpFunc_int_u6.L4 F (n + 1) (slices_symMergeCmpFunc_int_u6.t4 (a : Int) (m : Int) (b : Int) dom G xs (r : Int) (r : Int)) (slices_symMergeCmpFunc_int_u6.k4 F) = some ([], [[(.ints .i64 xs)]]) := by
    intro n
    rw [slices_symMergeCmpFunc_int_u6.s4, decide_eq_false (by omega), cond_false, halfW (by omega), wAdd (by omega)]
    rcases hr with ⟨c1, rfl⟩ | ⟨c1, rfl⟩
    · rw [wS (x := (((a + b) / 2 + m : Nat) : Int) - (((a + b) / 2 : Nat) : Int)) (by omega) (by omega), show (((a + b) / 2 + m : Nat) : Int) - (((a + b) / 2 : Nat) : Int) = (m : Int) by omega]
      rw [decide_eq_true (p := (((a + b) / 2 : Nat) : Int) < (m : Int)) (by omega), decide_eq_false (p := (m : Int) < (m : Int)) (by omega), decide_eq_true (p := (a : Int) < (((a + b) / 2 : Nat) : Int)) (by omega), decide_eq_false (p := (((a + b) / 2 : Nat) : Int) < (((a + b) / 2 : Nat) : Int)) (by omega), decide_eq_true (p := (m : Int) < (b : Int)) (by omega)]
      have hpre : (decide (xs.length ≤ 60) && domA dom xs && upW G xs && decide ((0 : Int) ≤ (((a + b) / 2 : Nat) : Int)) && decide ((((a + b) / 2 : Nat) : Int) < (m : Int)) && decide ((m : Int) < (b : Int)) && decide ((b : Int) ≤ ((xs.length : Nat) : Int)) && decide ((b : Int) - (((a + b) / 2 : Nat) : Int) ≤ 32)) = true := by
        simp only [hd, hu, Bool.and_true, Bool.and_eq_true, decide_eq_true_eq]
        omega
      rw [decide_eq_true (p := (m : Int) < (b : Int)) (by omega)] at hpre
      rw [decide_eq_true (p := (((a + b) / 2 : Nat) : Int) < (m : Int)) (by omega)] at hpre
      rw [hpre]
      rfl
    · rw [wS (x := (((a + b) / 2 + r : Nat) : Int) - (r : Int)) (by omega) (by omega), show (((a + b) / 2 + r : Nat) : Int) - (r : Int) = (((a + b) / 2 : Nat) : Int) by omega]
      rw [decide_eq_false (p := (r : Int) < (r : Int)) (by omega), decide_eq_true (p := (a : Int) < (r : Int)) (by omega), decide_eq_false (p := (((a + b) / 2 : Nat) : Int) < (((a + b) / 2 : Nat) : Int)) (by omega)]
      by_cases c2 : r < (a + b) / 2
      · rw [decide_eq_true (p := (r : Int) < (((a + b) / 2 : Nat) : Int)) (by omega)]
        have hpre : (decide (xs.length ≤ 60) && domA dom xs && upW G xs && decide ((0 : Int) ≤ (a : Int)) && decide ((a : Int) < (r : Int)) && decide ((r : Int) < (((a + b) / 2 : Nat) : Int)) && decide ((((a + b) / 2 : Nat) : Int) ≤ ((xs.length : Nat) : Int)) && decide ((((a + b) / 2 : Nat) : Int) - (a : Int) ≤ 32)) = true := by
          simp only [hd, hu, Bool.and_true, Bool.and_eq_true, decide_eq_true_eq]
          omega
        rw [decide_eq_true (p := (a : Int) < (r : Int)) (by omega)] at hpre
        rw [decide_eq_true (p := (r : Int) < (((a + b) / 2 : Nat) : Int)) (by omega)] at hpre
        rw [hpre]
        rfl
      · rw [decide_eq_false (p := (r : Int) < (((a + b) / 2 : Nat) : Int)) (by omega)]
        rfl
  intro d
  induction d with
  | zero =>
    intro n s h1 h2 h3 h4 h5
    obtain ⟨n, rfl⟩ : ∃ k, n = k + 1 := ⟨n - 1, by omega⟩
    obtain rfl : s = r := by omega
    exact hfin n
  | succ d ih =>
    intro n s h1 h2 h3 h4 h5
    obtain ⟨n, rfl⟩ : ∃ k, n = k + 1 := ⟨n - 1, by omega⟩
    by_cases hj : s < r
    · have hh : (s + r) / 2 < xs.length := by omega
      have hp : (a + b) / 2 + m - 1 - (s + r) / 2 < xs.length := by omega
      have hdm := domA_get hd (mem_getD hp) (mem_getD hh)
      have hup := up_get hu (i := (s + r) / 2) (j := (a + b) / 2 + m - 1 - (s + r) / 2) (by omega) hp
      rw [slices_symMergeCmpFunc_int_u6.s4, decide_eq_true (by omega), cond_true, halfW (by omega), halfW (by omega), wAdd (by omega), wS (x := (((a + b) / 2 + m : Nat) : Int) - 1) (by omega) (by omega), wS (x := (((a + b) / 2 + m : Nat) : Int) - 1 - (((s + r) / 2 : Nat) : Int)) (by omega) (by omega), show (((a + b) / 2 + m : Nat) : Int) - 1 - (((s + r) / 2 : Nat) : Int) = (((a + b) / 2 + m - 1 - (s + r) / 2 : Nat) : Int) by omega, idx_nat hh, idx_nat hp]
      simp only [Option.bind_some, getD_get hh, getD_get hp, hdm, hup, cond_true, Bool.not_false]
      rw [w1 (by omega)]
      exact ih n ((s + r) / 2 + 1) (by omega) (by omega) (by omega) (by omega) (by omega)
    · obtain rfl : s = r := by omega
      exact hfin n
theorem slices_symMergeCmpFunc_int_u6.ok : CallSpec Try.prog slices_symMergeCmpFunc_int_u6.E := slices_symMergeCmpFunc_int_u6.ok_of (by simp [slices_symMergeCmpFunc_int_u6.X, slices_symMergeCmpFunc_int_u5.ok]) fun xs a m b dom G h => by
  obtain ⟨F, hF⟩ : ∃ F : Nat, 200 < F := ⟨201, by omega⟩
  refine ⟨F, ?_⟩
  simp only [Bool.and_eq_true, decide_eq_true_eq] at h
  obtain ⟨⟨⟨⟨⟨⟨⟨hl, hd⟩, hu⟩, h0⟩, h1⟩, h2⟩, h3⟩, h4⟩ := h
  obtain ⟨a, rfl⟩ : ∃ n : Nat, a = n := ⟨a.toNat, by omega⟩
  obtain ⟨m, rfl⟩ : ∃ n : Nat, m = n := ⟨m.toNat, by omega⟩
  obtain ⟨b, rfl⟩ : ∃ n : Nat, b = n := ⟨b.toNat, by omega⟩
  rw [slices_symMergeCmpFunc_int_u6.e, wS (x := (m : Int) - (a : Int)) (by omega) (by omega), wS (x := (b : Int) - (m : Int)) (by omega) (by omega)]
  by_cases e1 : m = a + 1
  · rw [show (((m : Int) - (a : Int)) == 1) = true from beq_iff_eq.2 (by omega), cond_true]
    exact slices_symMergeCmpFunc_int_u6.left hd hu hl e1 hF 100 F b (by omega) (by omega) (by omega) (by omega)
  rw [show (((m : Int) - (a : Int)) == 1) = false from beq_eq_false_iff_ne.2 (by omega), cond_false]
  by_cases e2 : b = m + 1
  · rw [show (((b : Int) - (m : Int)) == 1) = true from beq_iff_eq.2 (by omega), cond_true]
    exact slices_symMergeCmpFunc_int_u6.right hd hu hl (by omega) hF 100 F a (by omega) (by omega) (by omega)
  rw [show (((b : Int) - (m : Int)) == 1) = false from beq_eq_false_iff_ne.2 (by omega), cond_false, halfW (by omega)]
  by_cases e3 : m > (a + b) / 2
  · rw [decide_eq_true (by omega), cond_true, wAdd (by omega), wS (x := (((a + b) / 2 + m : Nat) : Int) - (b : Int)) (by omega) (by omega), show (((a + b) / 2 + m : Nat) : Int) - (b : Int) = (((a + b) / 2 + m - b : Nat) : Int) by omega]
    exact slices_symMergeCmpFunc_int_u6.seek hd hu hl (by omega) (by omega) (by omega) (by omega) hF (.inl ⟨e3, rfl⟩) 100 F _ (by omega) (by omega) (by omega) (by omega) (by omega)
  · rw [decide_eq_false (by omega), cond_false]
    exact slices_symMergeCmpFunc_int_u6.seek hd hu hl (by omega) (by omega) (by omega) (by omega) hF (.inr ⟨by omega, rfl⟩) 100 F _ (by omega) (by omega) (by omega) (by omega) (by omega)

namespace slices_stableCmpFunc_int_u
noncomputable def E : Entry := ⟨58, false, true, fun | [.rows true [(.i64, xs)], .d (.int .i64 n), .d (.fn false dom G)] => decide ((xs : List Int).length ≤ 60) && domA dom xs && upW G xs && decide (n = (((xs : List Int).length : Nat) : Int)) | _ => false, fun | [.rows true [(.i64, xs)], .d (.int .i64 n), .d (.fn false dom G)] => ([], [[(.ints .i64 xs)]]) | _ => ([], []), fun _ => [], false, fun _ => none⟩
end slices_stableCmpFunc_int_u
namespace slices_stableCmpFunc_int_u
noncomputable def X : List Entry := [slices_insertionSortCmpFunc_int.E, slices_symMergeCmpFunc_int_u6.E]
noncomputable def I : List Inl := [⟨58, Try.f58, ⟨[], [(1000002, [3, 4, 5, 9, 10, 11, 12, 13, 14, 15, 16, 17, 18, 19, 20, 21, 22, 23, 24, 25, 26, 27, 28, 29, 30, 31, 32, 33, 34, 35, 36, 37, 38, 39, 40, 41, 42, 43, 44, 45, 46, 47, 48, 49, 50, 51, 52, 53, 54, 55, 56, 57, 58, 59, 60, 61, 62]), (1000007, [3, 4, 5, 7, 8, 9, 10, 11, 12, 13, 14, 15, 16, 17, 18, 19, 20, 21, 22, 23, 24, 25, 26, 27, 28, 29, 30, 31, 32, 33, 34, 35, 36, 37, 38, 39, 40, 41, 42, 43, 44, 45, 46, 47, 48, 49, 50, 51, 52, 53, 54, 55, 56, 57, 58, 59, 60, 61, 62]), (1000009, [3, 4, 5, 9, 10, 11, 12, 13, 14, 15, 16, 17, 18, 19, 20, 21, 22, 23, 24, 25, 26, 27, 28, 29, 30, 31, 32, 33, 34, 35, 36, 37, 38, 39, 40, 41, 42, 43, 44, 45, 46, 47, 48, 49, 50, 51, 52, 53, 54, 55, 56, 57, 58, 59, 60, 61, 62])], [], [], [], []⟩⟩]
theorem I_ok : ∀ i ∈ I, Try.prog.funcs[i.f]? = some i.fn ∧ (i.fn.name == "runtime.NumGoroutine") = false := by
  intro i hi
  simp only [I, List.mem_cons, List.not_mem_nil, or_false] at hi
  subst hi
  exact ⟨by kernel_rfl, by kernel_rfl⟩
noncomputable abbrev L0 (fuel n : Nat) (s : St) (k : Kont) := lAt Try.prog X I fuel false 0 false 58 (bodyOf Try.f58) [1, 1, 0, 0] n s k
noncomputable abbrev k0  (fuel : Nat) : Kont := (kAt Try.prog X I fuel false 0 false 58 (bodyOf Try.f58) [1, 1, 0, 0] [] (endK Try.prog Try.f58))
noncomputable def t0 (p1 : Int) (p2d : List Q → Bool) (p2g : List Q → Int) (x0q4 : Int) (x0q5 : Int) (x0q6 : List Int) : St := ⟨[(.all 1000000000 1), (.imm (.int .i64 p1)), (.imm (.fn false p2d p2g)), .dead, .dead, .dead, (.imm (.int .i64 20)), (.imm (.int .i64 x0q4)), (.imm (.int .i64 x0q5)), .dead, .dead, .dead, .dead, .dead, .dead, .dead, .dead, .dead, .dead, .dead, .dead, .dead, .dead, .dead, .dead, .dead, .dead, .dead, .dead, .dead, .dead, .dead, .dead, .dead, .dead, .dead, .dead, .dead, .dead, .dead, .dead, .dead, .dead, .dead, .dead, .dead, .dead, .dead, .dead, .dead, .dead, .dead, .dead, .dead, .dead, .dead, .dead, .dead, .dead, .dead, .dead, .dead, .dead], hOf [(1000000000, (.ints .i64 x0q6))], [(.all 1000000000 1)], []⟩
noncomputable abbrev L1 (fuel n : Nat) (s : St) (k : Kont) := lAt Try.prog X I fuel false 0 false 58 (bodyOf Try.f58) [1, 1, 1, 1, 0] n s k
noncomputable abbrev k1  (fuel : Nat) : Kont := (kAt Try.prog X I fuel false 0 false 58 (bodyOf Try.f58) [1, 1, 1, 1, 0] [] (endK Try.prog Try.f58))
noncomputable def t1 (p1 : Int) (p2d : List Q → Bool) (p2g : List Q → Int) (x1q3 : Int) (x1q4 : List Int) : St := ⟨[(.all 1000000000 1), (.imm (.int .i64 p1)), (.imm (.fn false p2d p2g)), .dead, .dead, .dead, (.imm (.int .i64 x1q3)), .dead, .dead, .dead, .dead, .dead, .dead, .dead, .dead, .dead, .dead, .dead, .dead, .dead, .dead, .dead, .dead, .dead, .dead, .dead, .dead, .dead, .dead, .dead, .dead, .dead, .dead, .dead, .dead, .dead, .dead, .dead, .dead, .dead, .dead, .dead, .dead, .dead, .dead, .dead, .dead, .dead, .dead, .dead, .dead, .dead, .dead, .dead, .dead, .dead, .dead, .dead, .dead, .dead, .dead, .dead, .dead], hOf [(1000000000, (.ints .i64 x1q4))], [(.all 1000000000 1)], []⟩
noncomputable abbrev L2 (fuel n : Nat) (s : St) (k : Kont) := lAt Try.prog X I fuel false 0 false 58 (bodyOf Try.f58) [1, 1, 1, 1, 0, 0, 1, 0, 1, 0, 0] n s k
noncomputable abbrev k2 (n1 : Nat) (fuel : Nat) : Kont := (kAt Try.prog X I fuel false 0 false 58 (bodyOf Try.f58) [1, 1, 1, 1, 0, 0, 1, 0, 1, 0, 0] [n1] (endK Try.prog Try.f58))
noncomputable def t2 (p1 : Int) (p2d : List Q → Bool) (p2g : List Q → Int) (x1q3 : Int) (x2q4 : Int) (x2q5 : Int) (x2q6 : List Int) : St := ⟨[(.all 1000000000 1), (.imm (.int .i64 p1)), (.imm (.fn false p2d p2g)), .dead, .dead, .dead, (.imm (.int .i64 x1q3)), (.imm (.int .i64 x2q4)), (.imm (.int .i64 x2q5)), .dead, .dead, .dead, .dead, .dead, .dead, .dead, .dead, .dead, .dead, .dead, .dead, .dead, .dead, .dead, .dead, .dead, .dead, .dead, .dead, .dead, .dead, .dead, .dead, .dead, .dead, .dead, .dead, .dead, .dead, .dead, .dead, .dead, .dead, .dead, .dead, .dead, .dead, .dead, .dead, .dead, .dead, .dead, .dead, .dead, .dead, .dead, .dead, .dead, .dead, .dead, .dead, .dead, .dead], hOf [(1000000000, (.ints .i64 x2q6))], [(.all 1000000000 1)], []⟩
theorem e (fuel : Nat) (p0 : List Int) (p1 : Int) (p2d : List Q → Bool) (p2g : List Q → Int) : runF Try.prog X I 0 fuel 58 Try.f58 [.rows true [(.i64, p0)], .d (.int .i64 p1), .d (.fn false p2d p2g)] =
  L0 fuel fuel (t0 p1 p2d p2g 0 20 p0) (k0  fuel) := by kernel_rfl
theorem s0 (fuel n0 : Nat) (p1 : Int) (p2d : List Q → Bool) (p2g : List Q → Int) (x0q4 : Int) (x0q5 : Int) (x0q6 : List Int) : L0 fuel (n0 + 1) (t0 p1 p2d p2g x0q4 x0q5 x0q6) (k0  fuel) =
  (bif (decide ((x0q5 : Int) ≤ p1)) then
  (bif decide ((x0q6 : List Int).length ≤ 60) && domA p2d x0q6 && decide (0 ≤ x0q4) && decide (x0q4 ≤ x0q5) && decide (x0q5 ≤ (((x0q6 : List Int).length : Nat) : Int)) then
  L0 fuel n0 (t0 p1 p2d p2g x0q5 ((IntKind.wrap .i64 (x0q5 + 20))) ((isW p2g x0q4.toNat (x0q5 - x0q4).toNat x0q6))) (k0  fuel)
  else
  none)
  else
  (bif decide ((x0q6 : List Int).length ≤ 60) && domA p2d x0q6 && decide (0 ≤ x0q4) && decide (x0q4 ≤ p1) && decide (p1 ≤ (((x0q6 : List Int).length : Nat) : Int)) then
  L1 fuel fuel (t1 p1 p2d p2g 20 ((isW p2g x0q4.toNat (p1 - x0q4).toNat x0q6))) (k1  fuel)
  else
  none)) := by kernel_rfl
theorem s1 (fuel n1 : Nat) (p1 : Int) (p2d : List Q → Bool) (p2g : List Q → Int) (x1q3 : Int) (x1q4 : List Int) : L1 fuel (n1 + 1) (t1 p1 p2d p2g x1q3 x1q4) (k1  fuel) =
  (bif (decide ((x1q3 : Int) < p1)) then
  L2 fuel fuel (t2 p1 p2d p2g x1q3 0 ((IntKind.wrap .i64 (2 * x1q3))) x1q4) (k2 n1 fuel)
  else
  some ([], [[(.ints .i64 x1q4)]])) := by kernel_rfl
theorem s2 (fuel n1 n2 : Nat) (p1 : Int) (p2d : List Q → Bool) (p2g : List Q → Int) (x1q3 : Int) (x2q4 : Int) (x2q5 : Int) (x2q6 : List Int) : L2 fuel (n2 + 1) (t2 p1 p2d p2g x1q3 x2q4 x2q5 x2q6) (k2 n1 fuel) =
  (bif (decide ((x2q5 : Int) ≤ p1)) then
  (bif decide ((x2q6 : List Int).length ≤ 60) && domA p2d x2q6 && upW p2g x2q6 && decide (0 ≤ x2q4) && decide (x2q4 < ((IntKind.wrap .i64 (x2q4 + x1q3)))) && decide (((IntKind.wrap .i64 (x2q4 + x1q3))) < x2q5) && decide (x2q5 ≤ (((x2q6 : List Int).length : Nat) : Int)) && decide (x2q5 - x2q4 ≤ 64) then
  L2 fuel n2 (t2 p1 p2d p2g x1q3 x2q5 ((IntKind.wrap .i64 (x2q5 + (IntKind.wrap .i64 (2 * x1q3))))) x2q6) (k2 n1 fuel)
  else
  none)
  else
  (bif (decide (((IntKind.wrap .i64 (x2q4 + x1q3)) : Int) < p1)) then
  (bif decide ((x2q6 : List Int).length ≤ 60) && domA p2d x2q6 && upW p2g x2q6 && decide (0 ≤ x2q4) && decide (x2q4 < ((IntKind.wrap .i64 (x2q4 + x1q3)))) && decide (((IntKind.wrap .i64 (x2q4 + x1q3))) < p1) && decide (p1 ≤ (((x2q6 : List Int).length : Nat) : Int)) && decide (p1 - x2q4 ≤ 64) then
  L1 fuel n1 (t1 p1 p2d p2g ((IntKind.wrap .i64 (x1q3 * 2))) x2q6) (k1  fuel)
  else
  none)
  else
  L1 fuel n1 (t1 p1 p2d p2g ((IntKind.wrap .i64 (x1q3 * 2))) x2q6) (k1  fuel))) := by kernel_rfl
end slices_stableCmpFunc_int_u
theorem slices_stableCmpFunc_int_u.ok_of (hX : ∀ E ∈ slices_stableCmpFunc_int_u.X, CallSpec Try.prog E) (h : ∀ (xs : List Int) (n : Int) (dom : List Q → Bool) (G : List Q → Int), (decide ((xs : List Int).length ≤ 60) && domA dom xs && upW G xs && decide (n = (((xs : List Int).length : Nat) : Int))) = true → ∃ fuel, runF Try.prog slices_stableCmpFunc_int_u.X slices_stableCmpFunc_int_u.I 0 fuel 58 Try.f58 [.rows true [(.i64, xs)], .d (.int .i64 n), .d (.fn false dom G)] = some ([], [[(.ints .i64 xs)]])) : CallSpec Try.prog slices_stableCmpFunc_int_u.E :=
  callSpec_of (d := 0) hX (by kernel_rfl) slices_stableCmpFunc_int_u.I_ok (by kernel_rfl) (by kernel_rfl) (by kernel_rfl) (fun _ _ _ _ h => by dsimp only [slices_stableCmpFunc_int_u.E] at h; cases h) (fun xs hp => by
    dsimp only [slices_stableCmpFunc_int_u.E] at hp ⊢
    split at hp
    · exact h _ _ _ _ hp
    · cases hp)
theorem slices_stableCmpFunc_int_u.mid {F N s n1 : Nat} {xs : List Int} {dom : List Q → Bool} {G : List Q → Int} (hN : xs.length = N) (h60 : N ≤ 60) (hd : domA dom xs = true) (hu : upW G xs = true) (hs : 1 ≤ s) (hsN : s < N) : ∀ (d n a : Nat), N - a ≤ d → a ≤ N → d < n →
    slices_stableCmpFunc_int_u.L2 F n (slices_stableCmpFunc_int_u.t2 (N : Int) dom G (s : Int) (a : Int) ((a + 2 * s : Nat) : Int) xs) (slices_stableCmpFunc_int_u.k2 n1 F) = slices_stableCmpFunc_int_u.L1 F n1 (slices_stableCmpFunc_int_u.t1 (N : Int) dom G ((s * 2 : Nat) : Int) xs) (slices_stableCmpFunc_int_u.k1 F) := by
  intro d
  induction d with
  | zero =>
    intro n a h1 h2 h3
    obtain ⟨n, rfl⟩ : ∃ k, n = k + 1 := ⟨n - 1, by omega⟩
    rw [slices_stableCmpFunc_int_u.s2, decide_eq_false (by omega), cond_false, wAdd (by omega), decide_eq_false (by omega), cond_false, wS (x := (s : Int) * 2) (by omega) (by omega), show (s : Int) * 2 = ((s * 2 : Nat) : Int) by omega]
  | succ d ih =>
    intro n a h1 h2 h3
    obtain ⟨n, rfl⟩ : ∃ k, n = k + 1 := ⟨n - 1, by omega⟩
    rw [slices_stableCmpFunc_int_u.s2, wAdd (by omega), wS (x := (s : Int) * 2) (by omega) (by omega), show (s : Int) * 2 = ((s * 2 : Nat) : Int) by omega]
    by_cases hb : a + 2 * s ≤ N
    · have hpre : (decide (xs.length ≤ 60) && domA dom xs && upW G xs && decide ((0 : Int) ≤ (a : Int)) && decide ((a : Int) < ((a + s : Nat) : Int)) && decide (((a + s : Nat) : Int) < ((a + 2 * s : Nat) : Int)) && decide (((a + 2 * s : Nat) : Int) ≤ ((xs.length : Nat) : Int)) && decide (((a + 2 * s : Nat) : Int) - (a : Int) ≤ 64)) = true := by
        simp only [hd, hu, Bool.and_true, Bool.and_eq_true, decide_eq_true_eq]
        omega
      rw [decide_eq_true (p := ((a + 2 * s : Nat) : Int) ≤ (N : Int)) (by omega), cond_true, hpre, cond_true, wS (x := 2 * (s : Int)) (by omega) (by omega), wS (x := ((a + 2 * s : Nat) : Int) + 2 * (s : Int)) (by omega) (by omega), show ((a + 2 * s : Nat) : Int) + 2 * (s : Int) = ((a + 2 * s + 2 * s : Nat) : Int) by omega]
      exact ih n (a + 2 * s) (by omega) (by omega) (by omega)
    · rw [decide_eq_false (p := ((a + 2 * s : Nat) : Int) ≤ (N : Int)) (by omega), cond_false]
      by_cases hc : a + s < N
      · have hpre : (decide (xs.length ≤ 60) && domA dom xs && upW G xs && decide ((0 : Int) ≤ (a : Int)) && decide ((a : Int) < ((a + s : Nat) : Int)) && decide (((a + s : Nat) : Int) < (N : Int)) && decide ((N : Int) ≤ ((xs.length : Nat) : Int)) && decide ((N : Int) - (a : Int) ≤ 64)) = true := by
          simp only [hd, hu, Bool.and_true, Bool.and_eq_true, decide_eq_true_eq]
          omega
        rw [decide_eq_true (p := ((a + s : Nat) : Int) < (N : Int)) (by omega)] at hpre ⊢
        rw [cond_true, hpre, cond_true]
      · rw [decide_eq_false (p := ((a + s : Nat) : Int) < (N : Int)) (by omega), cond_false]
theorem slices_stableCmpFunc_int_u.big {F N : Nat} {xs : List Int} {dom : List Q → Bool} {G : List Q → Int} (hF : 200 < F) (hN : xs.length = N) (h60 : N ≤ 60) (hd : domA dom xs = true) (hu : upW G xs = true) : ∀ (d n s : Nat), N - s ≤ d → 1 ≤ s → s ≤ 1000 → d < n →
    slices_stableCmpFunc_int_u.L1 F n (slices_stableCmpFunc_int_u.t1 (N : Int) dom G (s : Int) xs) (slices_stableCmpFunc_int_u.k1 F) = some ([], [[(.ints .i64 xs)]]) := by
  intro d
  induction d with
  | zero =>
    intro n s h1 h2 h3 h4
    obtain ⟨n, rfl⟩ : ∃ k, n = k + 1 := ⟨n - 1, by omega⟩
    rw [slices_stableCmpFunc_int_u.s1, decide_eq_false (by omega)]
    rfl
  | succ d ih =>
    intro n s h1 h2 h3 h4
    obtain ⟨n, rfl⟩ : ∃ k, n = k + 1 := ⟨n - 1, by omega⟩
    rw [slices_stableCmpFunc_int_u.s1]
    by_cases hc : s < N
    · have hm := slices_stableCmpFunc_int_u.mid (F := F) (n1 := n) (dom := dom) hN h60 hd hu h2 hc 100 F 0 (by omega) (by omega) (by omega)
      rw [decide_eq_true (by omega), cond_true, wS (by omega) (by omega), show 2 * (s : Int) = ((0 + 2 * s : Nat) : Int) by omega]
      refine Eq.trans hm ?_
      exact ih n (s * 2) (by omega) (by omega) (by omega) (by omega)
    · rw [decide_eq_false (by omega)]
      rfl
theorem slices_stableCmpFunc_int_u.blk {F N : Nat} {xs : List Int} {dom : List Q → Bool} {G : List Q → Int} (hF : 200 < F) (hN : xs.length = N) (h60 : N ≤ 60) (hd : domA dom xs = true) (hu : upW G xs = true) : ∀ (d n a : Nat), N - a ≤ d → a ≤ N → d < n →
    slices_stableCmpFunc_int_u.L0 F n (slices_stableCmpFunc_int_u.t0 (N : Int) dom G (a : Int) ((a + 20 : Nat) : Int) xs) (slices_stableCmpFunc_int_u.k0 F) = some ([], [[(.ints .i64 xs)]]) := by
  intro d
  induction d with
  | zero =>
    intro n a h1 h2 h3
    obtain ⟨n, rfl⟩ : ∃ k, n = k + 1 := ⟨n - 1, by omega⟩
    have hw : isW G (a : Int).toNat ((N : Int) - (a : Int)).toNat xs = xs := isW_up hu (by omega)
    have hpre : (decide (xs.length ≤ 60) && domA dom xs && decide ((0 : Int) ≤ (a : Int)) && decide ((a : Int) ≤ (N : Int)) && decide ((N : Int) ≤ ((xs.length : Nat) : Int))) = true := by
      simp only [hd, Bool.and_true, Bool.and_eq_true, decide_eq_true_eq]
      omega
    rw [slices_stableCmpFunc_int_u.s0, decide_eq_false (by omega), cond_false, hpre, cond_true, hw]
    exact slices_stableCmpFunc_int_u.big hF hN h60 hd hu 100 F 20 (by omega) (by omega) (by omega) (by omega)
  | succ d ih =>
    intro n a h1 h2 h3
    obtain ⟨n, rfl⟩ : ∃ k, n = k + 1 := ⟨n - 1, by omega⟩
    by_cases hb : a + 20 ≤ N
    · have hw : isW G (a : Int).toNat (((a + 20 : Nat) : Int) - (a : Int)).toNat xs = xs := isW_up hu (by omega)
      have hpre : (decide (xs.length ≤ 60) && domA dom xs && decide ((0 : Int) ≤ (a : Int)) && decide ((a : Int) ≤ ((a + 20 : Nat) : Int)) && decide (((a + 20 : Nat) : Int) ≤ ((xs.length : Nat) : Int))) = true := by
        simp only [hd, Bool.and_true, Bool.and_eq_true, decide_eq_true_eq]
        omega
      rw [slices_stableCmpFunc_int_u.s0, decide_eq_true (p := ((a + 20 : Nat) : Int) ≤ (N : Int)) (by omega), cond_true, hpre, cond_true, hw, wS (by omega) (by omega), show ((a + 20 : Nat) : Int) + 20 = ((a + 20 + 20 : Nat) : Int) by omega]
      exact ih n (a + 20) (by omega) (by omega) (by omega)
    · have hw : isW G (a : Int).toNat ((N : Int) - (a : Int)).toNat xs = xs := isW_up hu (by omega)
      have hpre : (decide (xs.length ≤ 60) && domA dom xs && decide ((0 : Int) ≤ (a : Int)) && decide ((a : Int) ≤ (N : Int)) && decide ((N : Int) ≤ ((xs.length : Nat) : Int))) = true := by
        simp only [hd, Bool.and_true, Bool.and_eq_true, decide_eq_true_eq]
        omega
      rw [slices_stableCmpFunc_int_u.s0, decide_eq_false (by omega), cond_false, hpre, cond_true, hw]
      exact slices_stableCmpFunc_int_u.big hF hN h60 hd hu 100 F 20 (by omega) (by omega) (by omega) (by omega)
theorem slices_stableCmpFunc_int_u.ok : CallSpec Try.prog slices_stableCmpFunc_int_u.E := slices_stableCmpFunc_int_u.ok_of (by simp [slices_stableCmpFunc_int_u.X, slices_insertionSortCmpFunc_int.ok, slices_symMergeCmpFunc_int_u6.ok]) fun xs n dom G h => by
  obtain ⟨F, hF⟩ : ∃ F : Nat, 200 < F := ⟨201, by omega⟩
  refine ⟨F, ?_⟩
  simp only [Bool.and_eq_true, decide_eq_true_eq] at h
  obtain ⟨⟨⟨h1, h2⟩, h3⟩, rfl⟩ := h
  rw [slices_stableCmpFunc_int_u.e]
  exact slices_stableCmpFunc_int_u.blk hF rfl h1 h2 h3 100 F 0 (by omega) (by omega) (by omega)

namespace slices_SortStableFunc_int_int_u
noncomputable def E : Entry := ⟨43, false, true, fun | [.rows true [(.i64, xs)], .d (.fn false dom G)] => decide ((xs : List Int).length ≤ 60) && domA dom xs && upW G xs | _ => false, fun | [.rows true [(.i64, xs)], .d (.fn false dom G)] => ([], [[(.ints .i64 xs)]]) | _ => ([], []), fun _ => [], false, fun _ => none⟩
end slices_SortStableFunc_int_int_u
namespace slices_SortStableFunc_int_int_u
noncomputable def X : List Entry := [slices_stableCmpFunc_int_u.E]
noncomputable def I : List Inl := [⟨43, Try.f43, ⟨[], [(0, [2, 3, 4, 5, 6, 7, 8])], [], [], [], []⟩⟩]
theorem I_ok : ∀ i ∈ I, Try.prog.funcs[i.f]? = some i.fn ∧ (i.fn.name == "runtime.NumGoroutine") = false := by
  intro i hi
  simp only [I, List.mem_cons, List.not_mem_nil, or_false] at hi
  subst hi
  exact ⟨by kernel_rfl, by kernel_rfl⟩
theorem e (fuel : Nat) (p0 : List Int) (p1d : List Q → Bool) (p1g : List Q → Int) : runF Try.prog X I 0 fuel 43 Try.f43 [.rows true [(.i64, p0)], .d (.fn false p1d p1g)] =
  (bif decide ((p0 : List Int).length ≤ 60) && domA p1d p0 && upW p1g p0 && decide ((((p0.length : Nat) : Int)) = (((p0 : List Int).length : Nat) : Int)) then
  some ([], [[(.ints .i64 p0)]])
  else
  none) := by kernel_rfl
end slices_SortStableFunc_int_int_u
theorem slices_SortStableFunc_int_int_u.ok_of (hX : ∀ E ∈ slices_SortStableFunc_int_int_u.X, CallSpec Try.prog E) (h : ∀ (xs : List Int) (dom : List Q → Bool) (G : List Q → Int), (decide ((xs : List Int).length ≤ 60) && domA dom xs && upW G xs) = true → ∃ fuel, runF Try.prog slices_SortStableFunc_int_int_u.X slices_SortStableFunc_int_int_u.I 0 fuel 43 Try.f43 [.rows true [(.i64, xs)], .d (.fn false dom G)] = some ([], [[(.ints .i64 xs)]])) : CallSpec Try.prog slices_SortStableFunc_int_int_u.E :=
  callSpec_of (d := 0) hX (by kernel_rfl) slices_SortStableFunc_int_int_u.I_ok (by kernel_rfl) (by kernel_rfl) (by kernel_rfl) (fun _ _ _ _ h => by dsimp only [slices_SortStableFunc_int_int_u.E] at h; cases h) (fun xs hp => by
    dsimp only [slices_SortStableFunc_int_int_u.E] at hp ⊢
    split at hp
    · exact h _ _ _ hp
    · cases hp)
theorem slices_SortStableFunc_int_int_u.ok : CallSpec Try.prog slices_SortStableFunc_int_int_u.E := slices_SortStableFunc_int_int_u.ok_of (by simp [slices_SortStableFunc_int_int_u.X, slices_stableCmpFunc_int_u.ok]) fun xs dom G h => ⟨0, by
  simp only [Bool.and_eq_true, decide_eq_true_eq] at h
  rw [slices_SortStableFunc_int_int_u.e, decide_eq_true h.1.1, h.1.2, h.2]
  simp only [decide_true, Bool.and_self, cond_true]⟩

namespace impl_GradeUp_u
noncomputable def E : Entry := ⟨17, false, false, fun | [.d (.agg [(.ints .i64 sh), (.ints .i64 da)])] => decide (sh.length < 9223372036854775808) && decide (da.length < 9223372036854775808) && (!vcB sh da || upW (q2v (gdC da)) (upN (da : List Int).length)) | _ => false, fun | [.d (.agg [(.ints .i64 sh), (.ints .i64 da)])] => ([.agg [((.ints .i64 (guS sh da)), true), ((.ints .i64 (guD sh da)), true)]], []) | _ => ([], []), fun _ => [], true, fun _ => none⟩
end impl_GradeUp_u
namespace impl_GradeUp_u
noncomputable def X : List Entry := [impl_isVector.E, impl_CountTo.E, impl_GradeUp_1.E, slices_SortStableFunc_int_int_u.E]
noncomputable def I : List Inl := [⟨17, Try.f17, ⟨[11], [(4, [0, 4, 5, 6, 7, 8, 9, 10, 11, 12, 13, 14, 15, 16])], [(4, [1])], [], [], []⟩⟩]
theorem I_ok : ∀ i ∈ I, Try.prog.funcs[i.f]? = some i.fn ∧ (i.fn.name == "runtime.NumGoroutine") = false := by
  intro i hi
  simp only [I, List.mem_cons, List.not_mem_nil, or_false] at hi
  subst hi
  exact ⟨by kernel_rfl, by kernel_rfl⟩
theorem e (fuel : Nat) (p0q0 : List Int) (p0q1 : List Int) : runF Try.prog X I 0 fuel 17 Try.f17 [.d (.agg [(.ints .i64 p0q0), (.ints .i64 p0q1)])] =
  (bif decide (p0q0.length < 9223372036854775808) && decide (p0q1.length < 9223372036854775808) then
  (bif (!(vcB p0q0 p0q1)) then
  some ([.agg [((.ints .i64 []), true), ((.ints .i64 []), true)]], [])
  else
  (bif decide ((((cntD (((p0q1.length : Nat) : Int)))) : List Int).length ≤ 60) && domA ((gdQ p0q1)) ((cntD (((p0q1.length : Nat) : Int)))) && upW ((q2v (gdC p0q1))) ((cntD (((p0q1.length : Nat) : Int)))) then
  some ([.agg [((.ints .i64 (cntS (((p0q1.length : Nat) : Int)))), true), ((.ints .i64 ((cntD (((p0q1.length : Nat) : Int))))), true)]], [])
  else
  none))
  else
  none) := by kernel_rfl
end impl_GradeUp_u
theorem impl_GradeUp_u.ok_of (hX : ∀ E ∈ impl_GradeUp_u.X, CallSpec Try.prog E) (h : ∀ (sh : List Int) (da : List Int), (decide (sh.length < 9223372036854775808) && decide (da.length < 9223372036854775808) && (!vcB sh da || upW (q2v (gdC da)) (upN (da : List Int).length))) = true → ∃ fuel, runF Try.prog impl_GradeUp_u.X impl_GradeUp_u.I 0 fuel 17 Try.f17 [.d (.agg [(.ints .i64 sh), (.ints .i64 da)])] = some ([.agg [((.ints .i64 (guS sh da)), true), ((.ints .i64 (guD sh da)), true)]], [])) : CallSpec Try.prog impl_GradeUp_u.E :=
  callSpec_of (d := 0) hX (by kernel_rfl) impl_GradeUp_u.I_ok (by kernel_rfl) (by kernel_rfl) (by kernel_rfl) (fun _ _ _ _ h => by dsimp only [impl_GradeUp_u.E] at h; cases h) (fun xs hp => by
    dsimp only [impl_GradeUp_u.E] at hp ⊢
    split at hp
    · exact h _ _ hp
    · cases hp)
theorem impl_GradeUp_u.ok : CallSpec Try.prog impl_GradeUp_u.E := impl_GradeUp_u.ok_of (by simp [impl_GradeUp_u.X, impl_isVector.ok, impl_CountTo.ok, impl_GradeUp_1.ok, slices_SortStableFunc_int_int_u.ok]) fun sh da h => ⟨0, by
  simp only [Bool.and_eq_true, Bool.or_eq_true] at h
  rw [impl_GradeUp_u.e, h.1.1, h.1.2]
  unfold guS guD
  cases hb : vcB sh da with
  | false => rfl
  | true =>
    obtain ⟨_, _, hl, _⟩ := vcB_inv hb
    have hup : upW (q2v (gdC da)) (upN da.length) = true := by
      rcases h.2 with h2 | h2
      · rw [hb] at h2; cases h2
      · exact h2
    have hc : cntOk ((da.length : Nat) : Int) = true := by simp only [cntOk, Bool.and_eq_true, decide_eq_true_eq]; omega
    have e1 : cntD ((da.length : Nat) : Int) = upN da.length := by simp only [cntD, hc, cond_true, Int.toNat_natCast]; rfl
    have e2 : cntS ((da.length : Nat) : Int) = [((da.length : Nat) : Int)] := by simp only [cntS, hc, cond_true]
    have hd : domA (gdQ da) (upN da.length) = true := gd_dom fun x hx => upN_mem.1 hx
    have hg : upN da.length = grN da da.length := by
      have h1 : isW (q2v (gdC da)) 0 da.length (upN da.length) = grN da da.length := by
        unfold isW
        rw [ltG_gd]
        exact isN_all da da.length
      rw [← h1]
      exact (isW_up hup (by rw [upN_length]; omega)).symm
    rw [e1, e2, upN_length, hd, hup, decide_eq_true hl]
    simp only [Bool.and_self, Bool.not_true, cond_true, cond_false, Bool.true_and]
    rw [← hg]⟩

namespace laws_FnCountTo
noncomputable def E : Entry := ⟨8, true, false, fun | [.d (.ints .u8 bs)] => bytesB bs | _ => false, fun | [.d (.ints .u8 bs)] => ([.one ((.bool true), false)], []) | _ => ([], []), fun _ => [], false, fun _ => none⟩
end laws_FnCountTo
namespace laws_FnCountTo
noncomputable def X : List Entry := [spec_DrawCountTo.E, impl_CountTo.E, spec_CountTo.E, laws_equalArray.E, impl_ValidArray.E, impl_GradeUp_u.E]
noncomputable def I : List Inl := [⟨8, Try.f8, ⟨[12, 15, 25, 48], [(12, [0, 1, 2, 5, 6, 7, 8, 9, 10, 11, 12, 13, 14, 15, 16, 17, 18, 19, 20, 21, 22, 23, 24, 25, 26, 27, 28, 29, 30, 31, 32, 33, 34, 35, 36, 37, 38, 39, 40, 41, 42, 43, 44, 45, 46, 47, 48, 49, 50, 51]), (1000008, [0, 1, 2, 6, 7, 8, 9, 10, 11, 12, 13, 14, 15, 16, 17, 18, 19, 20, 21, 22, 23, 24, 25, 26, 27, 28, 29, 30, 31, 32, 33, 34, 35, 36, 37, 38, 39, 40, 41, 42, 43, 44, 45, 46, 47, 48, 49, 50, 51])], [], [(5, [1, 0, 2, 3, 4, 5, 6, 7, 8, 9]), (6, [1, 0, 2, 3, 4]), (12, [0, 3, 1, 2, 4, 5, 6, 8, 7, 9, 10, 11])], [], []⟩⟩]
theorem I_ok : ∀ i ∈ I, Try.prog.funcs[i.f]? = some i.fn ∧ (i.fn.name == "runtime.NumGoroutine") = false := by
  intro i hi
  simp only [I, List.mem_cons, List.not_mem_nil, or_false] at hi
  subst hi
  exact ⟨by kernel_rfl, by kernel_rfl⟩
noncomputable abbrev L0 (fuel n : Nat) (s : St) (k : Kont) := lAt Try.prog X I fuel true 0 false 8 (bodyOf Try.f8) [1, 1, 1, 1, 1, 0, 1, 0] n s k
noncomputable abbrev k0  (fuel : Nat) : Kont := (kAt Try.prog X I fuel true 0 false 8 (bodyOf Try.f8) [1, 1, 1, 1, 1, 0, 1, 0] [] (endK Try.prog Try.f8))
noncomputable def t0 (p0 : List Int) (x0q1 : Int) : St := ⟨[.dead, .dead, .dead, (.imm (.int .i64 (oneV (cutC p0) 0 ctoL))), (.ptr 1000000000 0 0), (.imm (.int .i64 x0q1)), .dead, .dead, .dead, .dead, .dead, .dead, .dead, .dead, .dead, .dead, .dead, .dead, .dead, .dead, .dead, .dead, .dead, .dead, .dead, .dead, .dead, .dead, .dead, .dead, .dead, .dead, .dead, .dead, .dead, .dead, .dead, .dead, .dead, .dead, .dead, .dead, .dead, .dead, .dead, .dead, .dead, .dead, .dead, .dead, .dead, .dead], hOf [(1000000000, (.box [(.all 1000000001 1), (.all 1000000002 1)])), (1000000001, (.ints .i64 (cntS ((oneV (cutC p0) 0 ctoL))))), (1000000002, (.ints .i64 (cntD ((oneV (cutC p0) 0 ctoL)))))], [], []⟩
theorem e (fuel : Nat) (p0 : List Int) : runF Try.prog X I 0 fuel 8 Try.f8 [.d (.ints .u8 p0)] =
  (bif (decide ((((p0.length : Nat) : Int) : Int) > 1048576)) then
  some ([.one ((.bool true), false)], [])
  else
  (bif bytesB p0 then
  (bif decide (((cntS ((oneV (cutC p0) 0 ctoL)))).length < 9223372036854775808) && decide (((cntD ((oneV (cutC p0) 0 ctoL)))).length < 9223372036854775808) && decide (((cntS ((oneV (cutC p0) 0 ctoL)))).length < 9223372036854775808) && decide (((cntD ((oneV (cutC p0) 0 ctoL)))).length < 9223372036854775808) then
  (bif (!(decide (((cntS ((oneV (cutC p0) 0 ctoL)))) = ((cntS ((oneV (cutC p0) 0 ctoL))))) && decide (((cntD ((oneV (cutC p0) 0 ctoL)))) = ((cntD ((oneV (cutC p0) 0 ctoL))))))) then
  (bif decide (((cntS ((oneV (cutC p0) 0 ctoL)))).length < 9223372036854775808) && decide (((cntD ((oneV (cutC p0) 0 ctoL)))).length < 9223372036854775808) && decide (((cntS ((oneV (cutC p0) 0 ctoL)))).length < 9223372036854775808) && decide (((cntD ((oneV (cutC p0) 0 ctoL)))).length < 9223372036854775808) then
  some ([.one ((.bool (decide (((cntS ((oneV (cutC p0) 0 ctoL)))) = ((cntS ((oneV (cutC p0) 0 ctoL))))) && decide (((cntD ((oneV (cutC p0) 0 ctoL)))) = ((cntD ((oneV (cutC p0) 0 ctoL))))))), false)], [])
  else
  none)
  else
  (bif decide (((cntS ((oneV (cutC p0) 0 ctoL)))).length < 9223372036854775808) && decide (((cntD ((oneV (cutC p0) 0 ctoL)))).length < 9223372036854775808) then
  (bif (!(validA ((cntS ((oneV (cutC p0) 0 ctoL)))) ((cntD ((oneV (cutC p0) 0 ctoL)))))) then
  (bif decide (((cntS ((oneV (cutC p0) 0 ctoL)))).length < 9223372036854775808) && decide (((cntD ((oneV (cutC p0) 0 ctoL)))).length < 9223372036854775808) && decide (((cntS ((oneV (cutC p0) 0 ctoL)))).length < 9223372036854775808) && decide (((cntD ((oneV (cutC p0) 0 ctoL)))).length < 9223372036854775808) then
  some ([.one ((.bool (decide (((cntS ((oneV (cutC p0) 0 ctoL)))) = ((cntS ((oneV (cutC p0) 0 ctoL))))) && decide (((cntD ((oneV (cutC p0) 0 ctoL)))) = ((cntD ((oneV (cutC p0) 0 ctoL))))))), false)], [])
  else
  none)
  else
  L0 fuel fuel (t0 p0 0) (k0  fuel))
  else
  none))
  else
  none)
  else
  none)) := by kernel_rfl
theorem s0 (fuel n0 : Nat) (p0 : List Int) (x0q1 : Int) : L0 fuel (n0 + 1) (t0 p0 x0q1) (k0  fuel) =
  (bif (decide ((x0q1 : Int) < (((cntD ((oneV (cutC p0) 0 ctoL))).length : Nat) : Int))) then
  (idx x0q1 (cntD ((oneV (cutC p0) 0 ctoL))).length).bind fun j5 =>
  ((cntD ((oneV (cutC p0) 0 ctoL)))[j5]?).bind fun v6 =>
  (bif ((v6 : Int) != x0q1) then
  some ([.one ((.bool false), false)], [])
  else
  L0 fuel n0 (t0 p0 ((IntKind.wrap .i64 (x0q1 + 1)))) (k0  fuel))
  else
  (bif (((((cntD ((oneV (cutC p0) 0 ctoL))).length : Nat) : Int) : Int) == (oneV (cutC p0) 0 ctoL)) then
  (bif decide (((cntS ((oneV (cutC p0) 0 ctoL)))).length < 9223372036854775808) && decide (((cntD ((oneV (cutC p0) 0 ctoL)))).length < 9223372036854775808) && (!vcB ((cntS ((oneV (cutC p0) 0 ctoL)))) ((cntD ((oneV (cutC p0) 0 ctoL)))) || upW (q2v (gdC ((cntD ((oneV (cutC p0) 0 ctoL)))))) (upN (((cntD ((oneV (cutC p0) 0 ctoL)))) : List Int).length)) then
  (bif decide (((guS ((cntS ((oneV (cutC p0) 0 ctoL)))) ((cntD ((oneV (cutC p0) 0 ctoL)))))).length < 9223372036854775808) && decide (((guD ((cntS ((oneV (cutC p0) 0 ctoL)))) ((cntD ((oneV (cutC p0) 0 ctoL)))))).length < 9223372036854775808) && decide (((cntS ((oneV (cutC p0) 0 ctoL)))).length < 9223372036854775808) && decide (((cntD ((oneV (cutC p0) 0 ctoL)))).length < 9223372036854775808) then
  some ([.one ((.bool (decide (((guS ((cntS ((oneV (cutC p0) 0 ctoL)))) ((cntD ((oneV (cutC p0) 0 ctoL)))))) = ((cntS ((oneV (cutC p0) 0 ctoL))))) && decide (((guD ((cntS ((oneV (cutC p0) 0 ctoL)))) ((cntD ((oneV (cutC p0) 0 ctoL)))))) = ((cntD ((oneV (cutC p0) 0 ctoL))))))), false)], [])
  else
  none)
  else
  none)
  else
  some ([.one ((.bool false), false)], []))) := by kernel_rfl
end laws_FnCountTo
theorem laws_FnCountTo.ok_of (hX : ∀ E ∈ laws_FnCountTo.X, CallSpec Try.prog E) (h : ∀ (bs : List Int), (bytesB bs) = true → ∃ fuel, runF Try.prog laws_FnCountTo.X laws_FnCountTo.I 0 fuel 8 Try.f8 [.d (.ints .u8 bs)] = some ([.one ((.bool true), false)], [])) : CallSpec Try.prog laws_FnCountTo.E :=
  callSpec_of (d := 0) hX (by kernel_rfl) laws_FnCountTo.I_ok (by kernel_rfl) (by kernel_rfl) (by kernel_rfl) (fun _ _ _ _ h => by dsimp only [laws_FnCountTo.E] at h; cases h) (fun xs hp => by
    dsimp only [laws_FnCountTo.E] at hp ⊢
    split at hp
    · exact h _ hp
    · cases hp)
theorem laws_FnCountTo.ok : CallSpec Try.prog laws_FnCountTo.E := laws_FnCountTo.ok_of (by simp [laws_FnCountTo.X, spec_DrawCountTo.ok, impl_CountTo.ok, spec_CountTo.ok, laws_equalArray.ok, impl_ValidArray.ok, impl_GradeUp_u.ok]) fun bs h => by
  obtain ⟨F, hF⟩ : ∃ F : Nat, 4000 < F := ⟨4001, by omega⟩
  refine ⟨F, ?_⟩
  rw [laws_FnCountTo.e]
  by_cases hl : ((bs.length : Nat) : Int) > 1048576
  · rw [decide_eq_true hl]; rfl
  rw [decide_eq_false hl, cond_false, h, cond_true]
  have r0 := cut_ok h (p := 0) (by omega) (by omega)
  obtain ⟨k, hk⟩ : ∃ x, oneV (cutC bs) 0 ctoL = x := ⟨_, rfl⟩
  have cl := cnt_len k
  have g1 := lt_of (xs := cntS k) (by omega)
  have g2 := lt_of (xs := cntD k) (by omega)
  simp only [hk]
  cases hc : cntOk k with
  | false =>
    have e0 : cntS k = [] := by simp only [cntS, hc, cond_false]
    have e1 : cntD k = [] := by simp only [cntD, hc, cond_false]
    have g0 : decide (([] : List Int).length < 9223372036854775808) = true := rfl
    have hv0 : validA [] [] = false := rfl
    simp only [Bool.and_self, Bool.and_true, Bool.true_and, cond_true, cond_false, Bool.not_true, Bool.not_false, bne_self_eq_false, beq_self_eq_true, decide_true, eq_self, e0, e1, g0, hv0]
  | true =>
    have hc' := hc
    simp only [cntOk, Bool.and_eq_true, decide_eq_true_eq] at hc'
    obtain ⟨n, rfl⟩ : ∃ n : Nat, k = n := ⟨k.toNat, by omega⟩
    have hn : n ≤ 60 := by omega
    obtain ⟨e0, e1⟩ := cnt_up hn
    have hlu := upN_length n
    have hvo := upN_vec hn
    have hvu := validA_vec hvo
    have hvc := vcB_of hvo
    rw [hlu] at hvu hvc
    obtain ⟨u0, u1, _⟩ := gu_facts hvc
    rw [hlu] at u0 u1
    rw [gr_upN] at u1
    rw [e0] at g1
    rw [e1] at g2
    have g3 : decide (n < 9223372036854775808) = true := decide_eq_true (by omega)
    simp only [Bool.and_self, Bool.and_true, Bool.true_and, cond_true, cond_false, Bool.not_true, Bool.not_false, bne_self_eq_false, beq_self_eq_true, decide_true, eq_self, e0, e1, g1, g2, hvu]
    refine run_loop (N := n) (fun m i (_ : Unit) => laws_FnCountTo.L0 F m (laws_FnCountTo.t0 bs (i : Int)) (laws_FnCountTo.k0 F)) (fun _ _ => True) ?_ ?_ F 0 () (by omega) (by omega) trivial
    · intro m _ _
      rw [laws_FnCountTo.s0]
      simp only [hk, e0, e1, hlu]
      rw [dge (by omega)]
      simp only [Bool.and_self, Bool.and_true, Bool.true_and, cond_true, cond_false, Bool.not_true, Bool.not_false, bne_self_eq_false, beq_self_eq_true, decide_true, eq_self, Bool.or_true, g1, g2, g3, hvc, up_upN, u0, u1]
    · intro m i _ hi _
      refine ⟨(), trivial, ?_⟩
      have q2 : (upN n)[i]? = some (i : Int) := by rw [getD_get (by omega), upN, tab_getD hi]
      rw [laws_FnCountTo.s0]
      simp only [hk, e0, e1, hlu]
      rw [dlt hi, cond_true, idx_nat hi, w1 (by omega)]
      simp only [Option.bind_some, q2, bne_self_eq_false, cond_false]

end Go.Ab

/- Contracts of the model's SwapVars. -/
import Derived.Test.YthphlkfofbdncaaSpecB
import Derived.Test.YthphlkfofbdncaaHeld
namespace Go.Proofs.Ythphlkfofbdncaa
open Go.RowKit

set_option maxHeartbeats 1000000 in
theorem specSwapVars_0 (a b c d n u : Int) (w : World) (h1 : tvB a b c d n = true) (hu : 0 ≤ u ∧ u < 4) :
    Calls Try.prog 70 #[.agg #[.int .i64 a, .int .i64 b, .int .i64 c, .int .i64 d, .int .i64 n], .int .i64 0, .int .i64 u] w fun e w' => e = .returned (.tuple #[.agg #[.int .i64 (if (0 : Int) = 0 then sel a b c d u 0 else if u = 0 then sel a b c d 0 0 else a), .int .i64 (if (0 : Int) = 1 then sel a b c d u 0 else if u = 1 then sel a b c d 0 0 else b), .int .i64 (if (0 : Int) = 2 then sel a b c d u 0 else if u = 2 then sel a b c d 0 0 else c), .int .i64 (if (0 : Int) = 3 then sel a b c d u 0 else if u = 3 then sel a b c d 0 0 else d), .int .i64 n], .bool true]) ∧ Below w.heap.size w w' := by
  have h'' : u = 0 ∨ u = 1 ∨ u = 2 ∨ u = 3 := by omega
  have H1 := Lib.hid h1
  have HV := Lib.hid fun W => l1Var_is 0 true W (by simp [varB])
  have HU := Lib.hid fun W => l1Var_is u true W (by simp [varB]; omega)
  clear h1 hu
  rcases h'' with rfl | rfl | rfl | rfl
  · go_enter Try.func70, Try.ntmps70
    go_wp2_with fail
    refine (specTermValid_is _ _ _ _ _ true _ H1.out).mono ?_
    rintro e w' ⟨rfl, rfl⟩
    go_wp2_with fail
    refine (HV.out _).mono ?_
    rintro e w' ⟨rfl, rfl⟩
    go_wp2_with fail
    refine (HU.out _).mono ?_
    rintro e w' ⟨rfl, rfl⟩
    go_wp2_with (go_at_call 105; refine (l1List_any _ _ _ _ _ _).mono ?_; rintro e w' ⟨rfl, rfl⟩)
    refine (l1Term_any a b c d n _ _ (by refine ⟨?_, ?_, ?_, ?_, ?_, ?_⟩ <;> first | (simp [go_sem]; done) | (simp; omega))).mono ?_
    rintro e w' ⟨rfl, hb⟩
    obtain ⟨hc, hf⟩ := bcell hb
    obtain ⟨z0, z1, z2, z3, z4, z5⟩ := c5_on (x := w.heap.size + 1) (a := 0) (b := 0) (c := 0) (d := 0) (n := 0) (by refine ⟨?_, ?_, ?_, ?_, ?_, ?_⟩ <;> first | (simp [go_sem]; done) | (simp; omega)) hb
    have hzz := hb.size
    simp at hzz
    have hbb := below_step (B := w.heap.size) (w := w) (by go_grown) hb (by simp; omega)
    go_wp2
    refine bodyPost_ret (v := .tuple #[.agg #[.int .i64 a, .int .i64 b, .int .i64 c, .int .i64 d, .int .i64 n], .bool true]) (by simp [results, Try.results70, go_sem, z1, z2, z3, z4, z5]) rfl ⟨rfl, ?_⟩
    go_grown
  · go_enter Try.func70, Try.ntmps70
    go_wp2_with fail
    refine (specTermValid_is _ _ _ _ _ true _ H1.out).mono ?_
    rintro e w' ⟨rfl, rfl⟩
    go_wp2_with fail
    refine (HV.out _).mono ?_
    rintro e w' ⟨rfl, rfl⟩
    go_wp2_with fail
    refine (HU.out _).mono ?_
    rintro e w' ⟨rfl, rfl⟩
    go_wp2_with (go_at_call 105; refine (l1List_any _ _ _ _ _ _).mono ?_; rintro e w' ⟨rfl, rfl⟩)
    refine (l1Term_any b a c d n _ _ (by refine ⟨?_, ?_, ?_, ?_, ?_, ?_⟩ <;> first | (simp [go_sem]; done) | (simp; omega))).mono ?_
    rintro e w' ⟨rfl, hb⟩
    obtain ⟨hc, hf⟩ := bcell hb
    obtain ⟨z0, z1, z2, z3, z4, z5⟩ := c5_on (x := w.heap.size + 1) (a := 0) (b := 0) (c := 0) (d := 0) (n := 0) (by refine ⟨?_, ?_, ?_, ?_, ?_, ?_⟩ <;> first | (simp [go_sem]; done) | (simp; omega)) hb
    have hzz := hb.size
    simp at hzz
    have hbb := below_step (B := w.heap.size) (w := w) (by go_grown) hb (by simp; omega)
    go_wp2
    refine bodyPost_ret (v := .tuple #[.agg #[.int .i64 b, .int .i64 a, .int .i64 c, .int .i64 d, .int .i64 n], .bool true]) (by simp [results, Try.results70, go_sem, z1, z2, z3, z4, z5]) rfl ⟨rfl, ?_⟩
    go_grown
  · go_enter Try.func70, Try.ntmps70
    go_wp2_with fail
    refine (specTermValid_is _ _ _ _ _ true _ H1.out).mono ?_
    rintro e w' ⟨rfl, rfl⟩
    go_wp2_with fail
    refine (HV.out _).mono ?_
    rintro e w' ⟨rfl, rfl⟩
    go_wp2_with fail
    refine (HU.out _).mono ?_
    rintro e w' ⟨rfl, rfl⟩
    go_wp2_with (go_at_call 105; refine (l1List_any _ _ _ _ _ _).mono ?_; rintro e w' ⟨rfl, rfl⟩)
    refine (l1Term_any c b a d n _ _ (by refine ⟨?_, ?_, ?_, ?_, ?_, ?_⟩ <;> first | (simp [go_sem]; done) | (simp; omega))).mono ?_
    rintro e w' ⟨rfl, hb⟩
    obtain ⟨hc, hf⟩ := bcell hb
    obtain ⟨z0, z1, z2, z3, z4, z5⟩ := c5_on (x := w.heap.size + 1) (a := 0) (b := 0) (c := 0) (d := 0) (n := 0) (by refine ⟨?_, ?_, ?_, ?_, ?_, ?_⟩ <;> first | (simp [go_sem]; done) | (simp; omega)) hb
    have hzz := hb.size
    simp at hzz
    have hbb := below_step (B := w.heap.size) (w := w) (by go_grown) hb (by simp; omega)
    go_wp2
    refine bodyPost_ret (v := .tuple #[.agg #[.int .i64 c, .int .i64 b, .int .i64 a, .int .i64 d, .int .i64 n], .bool true]) (by simp [results, Try.results70, go_sem, z1, z2, z3, z4, z5]) rfl ⟨rfl, ?_⟩
    go_grown
  · go_enter Try.func70, Try.ntmps70
    go_wp2_with fail
    refine (specTermValid_is _ _ _ _ _ true _ H1.out).mono ?_
    rintro e w' ⟨rfl, rfl⟩
    go_wp2_with fail
    refine (HV.out _).mono ?_
    rintro e w' ⟨rfl, rfl⟩
    go_wp2_with fail
    refine (HU.out _).mono ?_
    rintro e w' ⟨rfl, rfl⟩
    go_wp2_with (go_at_call 105; refine (l1List_any _ _ _ _ _ _).mono ?_; rintro e w' ⟨rfl, rfl⟩)
    refine (l1Term_any d b c a n _ _ (by refine ⟨?_, ?_, ?_, ?_, ?_, ?_⟩ <;> first | (simp [go_sem]; done) | (simp; omega))).mono ?_
    rintro e w' ⟨rfl, hb⟩
    obtain ⟨hc, hf⟩ := bcell hb
    obtain ⟨z0, z1, z2, z3, z4, z5⟩ := c5_on (x := w.heap.size + 1) (a := 0) (b := 0) (c := 0) (d := 0) (n := 0) (by refine ⟨?_, ?_, ?_, ?_, ?_, ?_⟩ <;> first | (simp [go_sem]; done) | (simp; omega)) hb
    have hzz := hb.size
    simp at hzz
    have hbb := below_step (B := w.heap.size) (w := w) (by go_grown) hb (by simp; omega)
    go_wp2
    refine bodyPost_ret (v := .tuple #[.agg #[.int .i64 d, .int .i64 b, .int .i64 c, .int .i64 a, .int .i64 n], .bool true]) (by simp [results, Try.results70, go_sem, z1, z2, z3, z4, z5]) rfl ⟨rfl, ?_⟩
    go_grown

set_option maxHeartbeats 1000000 in
theorem specSwapVars_1 (a b c d n u : Int) (w : World) (h1 : tvB a b c d n = true) (hu : 0 ≤ u ∧ u < 4) :
    Calls Try.prog 70 #[.agg #[.int .i64 a, .int .i64 b, .int .i64 c, .int .i64 d, .int .i64 n], .int .i64 1, .int .i64 u] w fun e w' => e = .returned (.tuple #[.agg #[.int .i64 (if (1 : Int) = 0 then sel a b c d u 0 else if u = 0 then sel a b c d 1 0 else a), .int .i64 (if (1 : Int) = 1 then sel a b c d u 0 else if u = 1 then sel a b c d 1 0 else b), .int .i64 (if (1 : Int) = 2 then sel a b c d u 0 else if u = 2 then sel a b c d 1 0 else c), .int .i64 (if (1 : Int) = 3 then sel a b c d u 0 else if u = 3 then sel a b c d 1 0 else d), .int .i64 n], .bool true]) ∧ Below w.heap.size w w' := by
  have h'' : u = 0 ∨ u = 1 ∨ u = 2 ∨ u = 3 := by omega
  have H1 := Lib.hid h1
  have HV := Lib.hid fun W => l1Var_is 1 true W (by simp [varB])
  have HU := Lib.hid fun W => l1Var_is u true W (by simp [varB]; omega)
  clear h1 hu
  rcases h'' with rfl | rfl | rfl | rfl
  · go_enter Try.func70, Try.ntmps70
    go_wp2_with fail
    refine (specTermValid_is _ _ _ _ _ true _ H1.out).mono ?_
    rintro e w' ⟨rfl, rfl⟩
    go_wp2_with fail
    refine (HV.out _).mono ?_
    rintro e w' ⟨rfl, rfl⟩
    go_wp2_with fail
    refine (HU.out _).mono ?_
    rintro e w' ⟨rfl, rfl⟩
    go_wp2_with (go_at_call 105; refine (l1List_any _ _ _ _ _ _).mono ?_; rintro e w' ⟨rfl, rfl⟩)
    refine (l1Term_any b a c d n _ _ (by refine ⟨?_, ?_, ?_, ?_, ?_, ?_⟩ <;> first | (simp [go_sem]; done) | (simp; omega))).mono ?_
    rintro e w' ⟨rfl, hb⟩
    obtain ⟨hc, hf⟩ := bcell hb
    obtain ⟨z0, z1, z2, z3, z4, z5⟩ := c5_on (x := w.heap.size + 1) (a := 0) (b := 0) (c := 0) (d := 0) (n := 0) (by refine ⟨?_, ?_, ?_, ?_, ?_, ?_⟩ <;> first | (simp [go_sem]; done) | (simp; omega)) hb
    have hzz := hb.size
    simp at hzz
    have hbb := below_step (B := w.heap.size) (w := w) (by go_grown) hb (by simp; omega)
    go_wp2
    refine bodyPost_ret (v := .tuple #[.agg #[.int .i64 b, .int .i64 a, .int .i64 c, .int .i64 d, .int .i64 n], .bool true]) (by simp [results, Try.results70, go_sem, z1, z2, z3, z4, z5]) rfl ⟨rfl, ?_⟩
    go_grown
  · go_enter Try.func70, Try.ntmps70
    go_wp2_with fail
    refine (specTermValid_is _ _ _ _ _ true _ H1.out).mono ?_
    rintro e w' ⟨rfl, rfl⟩
    go_wp2_with fail
    refine (HV.out _).mono ?_
    rintro e w' ⟨rfl, rfl⟩
    go_wp2_with fail
    refine (HU.out _).mono ?_
    rintro e w' ⟨rfl, rfl⟩
    go_wp2_with (go_at_call 105; refine (l1List_any _ _ _ _ _ _).mono ?_; rintro e w' ⟨rfl, rfl⟩)
    refine (l1Term_any a b c d n _ _ (by refine ⟨?_, ?_, ?_, ?_, ?_, ?_⟩ <;> first | (simp [go_sem]; done) | (simp; omega))).mono ?_
    rintro e w' ⟨rfl, hb⟩
    obtain ⟨hc, hf⟩ := bcell hb
    obtain ⟨z0, z1, z2, z3, z4, z5⟩ := c5_on (x := w.heap.size + 1) (a := 0) (b := 0) (c := 0) (d := 0) (n := 0) (by refine ⟨?_, ?_, ?_, ?_, ?_, ?_⟩ <;> first | (simp [go_sem]; done) | (simp; omega)) hb
    have hzz := hb.size
    simp at hzz
    have hbb := below_step (B := w.heap.size) (w := w) (by go_grown) hb (by simp; omega)
    go_wp2
    refine bodyPost_ret (v := .tuple #[.agg #[.int .i64 a, .int .i64 b, .int .i64 c, .int .i64 d, .int .i64 n], .bool true]) (by simp [results, Try.results70, go_sem, z1, z2, z3, z4, z5]) rfl ⟨rfl, ?_⟩
    go_grown
  · go_enter Try.func70, Try.ntmps70
    go_wp2_with fail
    refine (specTermValid_is _ _ _ _ _ true _ H1.out).mono ?_
    rintro e w' ⟨rfl, rfl⟩
    go_wp2_with fail
    refine (HV.out _).mono ?_
    rintro e w' ⟨rfl, rfl⟩
    go_wp2_with fail
    refine (HU.out _).mono ?_
    rintro e w' ⟨rfl, rfl⟩
    go_wp2_with (go_at_call 105; refine (l1List_any _ _ _ _ _ _).mono ?_; rintro e w' ⟨rfl, rfl⟩)
    refine (l1Term_any a c b d n _ _ (by refine ⟨?_, ?_, ?_, ?_, ?_, ?_⟩ <;> first | (simp [go_sem]; done) | (simp; omega))).mono ?_
    rintro e w' ⟨rfl, hb⟩
    obtain ⟨hc, hf⟩ := bcell hb
    obtain ⟨z0, z1, z2, z3, z4, z5⟩ := c5_on (x := w.heap.size + 1) (a := 0) (b := 0) (c := 0) (d := 0) (n := 0) (by refine ⟨?_, ?_, ?_, ?_, ?_, ?_⟩ <;> first | (simp [go_sem]; done) | (simp; omega)) hb
    have hzz := hb.size
    simp at hzz
    have hbb := below_step (B := w.heap.size) (w := w) (by go_grown) hb (by simp; omega)
    go_wp2
    refine bodyPost_ret (v := .tuple #[.agg #[.int .i64 a, .int .i64 c, .int .i64 b, .int .i64 d, .int .i64 n], .bool true]) (by simp [results, Try.results70, go_sem, z1, z2, z3, z4, z5]) rfl ⟨rfl, ?_⟩
    go_grown
  · go_enter Try.func70, Try.ntmps70
    go_wp2_with fail
    refine (specTermValid_is _ _ _ _ _ true _ H1.out).mono ?_
    rintro e w' ⟨rfl, rfl⟩
    go_wp2_with fail
    refine (HV.out _).mono ?_
    rintro e w' ⟨rfl, rfl⟩
    go_wp2_with fail
    refine (HU.out _).mono ?_
    rintro e w' ⟨rfl, rfl⟩
    go_wp2_with (go_at_call 105; refine (l1List_any _ _ _ _ _ _).mono ?_; rintro e w' ⟨rfl, rfl⟩)
    refine (l1Term_any a d c b n _ _ (by refine ⟨?_, ?_, ?_, ?_, ?_, ?_⟩ <;> first | (simp [go_sem]; done) | (simp; omega))).mono ?_
    rintro e w' ⟨rfl, hb⟩
    obtain ⟨hc, hf⟩ := bcell hb
    obtain ⟨z0, z1, z2, z3, z4, z5⟩ := c5_on (x := w.heap.size + 1) (a := 0) (b := 0) (c := 0) (d := 0) (n := 0) (by refine ⟨?_, ?_, ?_, ?_, ?_, ?_⟩ <;> first | (simp [go_sem]; done) | (simp; omega)) hb
    have hzz := hb.size
    simp at hzz
    have hbb := below_step (B := w.heap.size) (w := w) (by go_grown) hb (by simp; omega)
    go_wp2
    refine bodyPost_ret (v := .tuple #[.agg #[.int .i64 a, .int .i64 d, .int .i64 c, .int .i64 b, .int .i64 n], .bool true]) (by simp [results, Try.results70, go_sem, z1, z2, z3, z4, z5]) rfl ⟨rfl, ?_⟩
    go_grown

set_option maxHeartbeats 1000000 in
theorem specSwapVars_2 (a b c d n u : Int) (w : World) (h1 : tvB a b c d n = true) (hu : 0 ≤ u ∧ u < 4) :
    Calls Try.prog 70 #[.agg #[.int .i64 a, .int .i64 b, .int .i64 c, .int .i64 d, .int .i64 n], .int .i64 2, .int .i64 u] w fun e w' => e = .returned (.tuple #[.agg #[.int .i64 (if (2 : Int) = 0 then sel a b c d u 0 else if u = 0 then sel a b c d 2 0 else a), .int .i64 (if (2 : Int) = 1 then sel a b c d u 0 else if u = 1 then sel a b c d 2 0 else b), .int .i64 (if (2 : Int) = 2 then sel a b c d u 0 else if u = 2 then sel a b c d 2 0 else c), .int .i64 (if (2 : Int) = 3 then sel a b c d u 0 else if u = 3 then sel a b c d 2 0 else d), .int .i64 n], .bool true]) ∧ Below w.heap.size w w' := by
  have h'' : u = 0 ∨ u = 1 ∨ u = 2 ∨ u = 3 := by omega
  have H1 := Lib.hid h1
  have HV := Lib.hid fun W => l1Var_is 2 true W (by simp [varB])
  have HU := Lib.hid fun W => l1Var_is u true W (by simp [varB]; omega)
  clear h1 hu
  rcases h'' with rfl | rfl | rfl | rfl
  · go_enter Try.func70, Try.ntmps70
    go_wp2_with fail
    refine (specTermValid_is _ _ _ _ _ true _ H1.out).mono ?_
    rintro e w' ⟨rfl, rfl⟩
    go_wp2_with fail
    refine (HV.out _).mono ?_
    rintro e w' ⟨rfl, rfl⟩
    go_wp2_with fail
    refine (HU.out _).mono ?_
    rintro e w' ⟨rfl, rfl⟩
    go_wp2_with (go_at_call 105; refine (l1List_any _ _ _ _ _ _).mono ?_; rintro e w' ⟨rfl, rfl⟩)
    refine (l1Term_any c b a d n _ _ (by refine ⟨?_, ?_, ?_, ?_, ?_, ?_⟩ <;> first | (simp [go_sem]; done) | (simp; omega))).mono ?_
    rintro e w' ⟨rfl, hb⟩
    obtain ⟨hc, hf⟩ := bcell hb
    obtain ⟨z0, z1, z2, z3, z4, z5⟩ := c5_on (x := w.heap.size + 1) (a := 0) (b := 0) (c := 0) (d := 0) (n := 0) (by refine ⟨?_, ?_, ?_, ?_, ?_, ?_⟩ <;> first | (simp [go_sem]; done) | (simp; omega)) hb
    have hzz := hb.size
    simp at hzz
    have hbb := below_step (B := w.heap.size) (w := w) (by go_grown) hb (by simp; omega)
    go_wp2
    refine bodyPost_ret (v := .tuple #[.agg #[.int .i64 c, .int .i64 b, .int .i64 a, .int .i64 d, .int .i64 n], .bool true]) (by simp [results, Try.results70, go_sem, z1, z2, z3, z4, z5]) rfl ⟨rfl, ?_⟩
    go_grown
  · go_enter Try.func70, Try.ntmps70
    go_wp2_with fail
    refine (specTermValid_is _ _ _ _ _ true _ H1.out).mono ?_
    rintro e w' ⟨rfl, rfl⟩
    go_wp2_with fail
    refine (HV.out _).mono ?_
    rintro e w' ⟨rfl, rfl⟩
    go_wp2_with fail
    refine (HU.out _).mono ?_
    rintro e w' ⟨rfl, rfl⟩
    go_wp2_with (go_at_call 105; refine (l1List_any _ _ _ _ _ _).mono ?_; rintro e w' ⟨rfl, rfl⟩)
    refine (l1Term_any a c b d n _ _ (by refine ⟨?_, ?_, ?_, ?_, ?_, ?_⟩ <;> first | (simp [go_sem]; done) | (simp; omega))).mono ?_
    rintro e w' ⟨rfl, hb⟩
    obtain ⟨hc, hf⟩ := bcell hb
    obtain ⟨z0, z1, z2, z3, z4, z5⟩ := c5_on (x := w.heap.size + 1) (a := 0) (b := 0) (c := 0) (d := 0) (n := 0) (by refine ⟨?_, ?_, ?_, ?_, ?_, ?_⟩ <;> first | (simp [go_sem]; done) | (simp; omega)) hb
    have hzz := hb.size
    simp at hzz
    have hbb := below_step (B := w.heap.size) (w := w) (by go_grown) hb (by simp; omega)
    go_wp2
    refine bodyPost_ret (v := .tuple #[.agg #[.int .i64 a, .int .i64 c, .int .i64 b, .int .i64 d, .int .i64 n], .bool true]) (by simp [results, Try.results70, go_sem, z1, z2, z3, z4, z5]) rfl ⟨rfl, ?_⟩
    go_grown
  · go_enter Try.func70, Try.ntmps70
    go_wp2_with fail
    refine (specTermValid_is _ _ _ _ _ true _ H1.out).mono ?_
    rintro e w' ⟨rfl, rfl⟩
    go_wp2_with fail
    refine (HV.out _).mono ?_
    rintro e w' ⟨rfl, rfl⟩
    go_wp2_with fail
    refine (HU.out _).mono ?_
    rintro e w' ⟨rfl, rfl⟩
    go_wp2_with (go_at_call 105; refine (l1List_any _ _ _ _ _ _).mono ?_; rintro e w' ⟨rfl, rfl⟩)
    refine (l1Term_any a b c d n _ _ (by refine ⟨?_, ?_, ?_, ?_, ?_, ?_⟩ <;> first | (simp [go_sem]; done) | (simp; omega))).mono ?_
    rintro e w' ⟨rfl, hb⟩
    obtain ⟨hc, hf⟩ := bcell hb
    obtain ⟨z0, z1, z2, z3, z4, z5⟩ := c5_on (x := w.heap.size + 1) (a := 0) (b := 0) (c := 0) (d := 0) (n := 0) (by refine ⟨?_, ?_, ?_, ?_, ?_, ?_⟩ <;> first | (simp [go_sem]; done) | (simp; omega)) hb
    have hzz := hb.size
    simp at hzz
    have hbb := below_step (B := w.heap.size) (w := w) (by go_grown) hb (by simp; omega)
    go_wp2
    refine bodyPost_ret (v := .tuple #[.agg #[.int .i64 a, .int .i64 b, .int .i64 c, .int .i64 d, .int .i64 n], .bool true]) (by simp [results, Try.results70, go_sem, z1, z2, z3, z4, z5]) rfl ⟨rfl, ?_⟩
    go_grown
  · go_enter Try.func70, Try.ntmps70
    go_wp2_with fail
    refine (specTermValid_is _ _ _ _ _ true _ H1.out).mono ?_
    rintro e w' ⟨rfl, rfl⟩
    go_wp2_with fail
    refine (HV.out _).mono ?_
    rintro e w' ⟨rfl, rfl⟩
    go_wp2_with fail
    refine (HU.out _).mono ?_
    rintro e w' ⟨rfl, rfl⟩
    go_wp2_with (go_at_call 105; refine (l1List_any _ _ _ _ _ _).mono ?_; rintro e w' ⟨rfl, rfl⟩)
    refine (l1Term_any a b d c n _ _ (by refine ⟨?_, ?_, ?_, ?_, ?_, ?_⟩ <;> first | (simp [go_sem]; done) | (simp; omega))).mono ?_
    rintro e w' ⟨rfl, hb⟩
    obtain ⟨hc, hf⟩ := bcell hb
    obtain ⟨z0, z1, z2, z3, z4, z5⟩ := c5_on (x := w.heap.size + 1) (a := 0) (b := 0) (c := 0) (d := 0) (n := 0) (by refine ⟨?_, ?_, ?_, ?_, ?_, ?_⟩ <;> first | (simp [go_sem]; done) | (simp; omega)) hb
    have hzz := hb.size
    simp at hzz
    have hbb := below_step (B := w.heap.size) (w := w) (by go_grown) hb (by simp; omega)
    go_wp2
    refine bodyPost_ret (v := .tuple #[.agg #[.int .i64 a, .int .i64 b, .int .i64 d, .int .i64 c, .int .i64 n], .bool true]) (by simp [results, Try.results70, go_sem, z1, z2, z3, z4, z5]) rfl ⟨rfl, ?_⟩
    go_grown

set_option maxHeartbeats 1000000 in
theorem specSwapVars_3 (a b c d n u : Int) (w : World) (h1 : tvB a b c d n = true) (hu : 0 ≤ u ∧ u < 4) :
    Calls Try.prog 70 #[.agg #[.int .i64 a, .int .i64 b, .int .i64 c, .int .i64 d, .int .i64 n], .int .i64 3, .int .i64 u] w fun e w' => e = .returned (.tuple #[.agg #[.int .i64 (if (3 : Int) = 0 then sel a b c d u 0 else if u = 0 then sel a b c d 3 0 else a), .int .i64 (if (3 : Int) = 1 then sel a b c d u 0 else if u = 1 then sel a b c d 3 0 else b), .int .i64 (if (3 : Int) = 2 then sel a b c d u 0 else if u = 2 then sel a b c d 3 0 else c), .int .i64 (if (3 : Int) = 3 then sel a b c d u 0 else if u = 3 then sel a b c d 3 0 else d), .int .i64 n], .bool true]) ∧ Below w.heap.size w w' := by
  have h'' : u = 0 ∨ u = 1 ∨ u = 2 ∨ u = 3 := by omega
  have H1 := Lib.hid h1
  have HV := Lib.hid fun W => l1Var_is 3 true W (by simp [varB])
  have HU := Lib.hid fun W => l1Var_is u true W (by simp [varB]; omega)
  clear h1 hu
  rcases h'' with rfl | rfl | rfl | rfl
  · go_enter Try.func70, Try.ntmps70
    go_wp2_with fail
    refine (specTermValid_is _ _ _ _ _ true _ H1.out).mono ?_
    rintro e w' ⟨rfl, rfl⟩
    go_wp2_with fail
    refine (HV.out _).mono ?_
    rintro e w' ⟨rfl, rfl⟩
    go_wp2_with fail
    refine (HU.out _).mono ?_
    rintro e w' ⟨rfl, rfl⟩
    go_wp2_with (go_at_call 105; refine (l1List_any _ _ _ _ _ _).mono ?_; rintro e w' ⟨rfl, rfl⟩)
    refine (l1Term_any d b c a n _ _ (by refine ⟨?_, ?_, ?_, ?_, ?_, ?_⟩ <;> first | (simp [go_sem]; done) | (simp; omega))).mono ?_
    rintro e w' ⟨rfl, hb⟩
    obtain ⟨hc, hf⟩ := bcell hb
    obtain ⟨z0, z1, z2, z3, z4, z5⟩ := c5_on (x := w.heap.size + 1) (a := 0) (b := 0) (c := 0) (d := 0) (n := 0) (by refine ⟨?_, ?_, ?_, ?_, ?_, ?_⟩ <;> first | (simp [go_sem]; done) | (simp; omega)) hb
    have hzz := hb.size
    simp at hzz
    have hbb := below_step (B := w.heap.size) (w := w) (by go_grown) hb (by simp; omega)
    go_wp2
    refine bodyPost_ret (v := .tuple #[.agg #[.int .i64 d, .int .i64 b, .int .i64 c, .int .i64 a, .int .i64 n], .bool true]) (by simp [results, Try.results70, go_sem, z1, z2, z3, z4, z5]) rfl ⟨rfl, ?_⟩
    go_grown
  · go_enter Try.func70, Try.ntmps70
    go_wp2_with fail
    refine (specTermValid_is _ _ _ _ _ true _ H1.out).mono ?_
    rintro e w' ⟨rfl, rfl⟩
    go_wp2_with fail
    refine (HV.out _).mono ?_
    rintro e w' ⟨rfl, rfl⟩
    go_wp2_with fail
    refine (HU.out _).mono ?_
    rintro e w' ⟨rfl, rfl⟩
    go_wp2_with (go_at_call 105; refine (l1List_any _ _ _ _ _ _).mono ?_; rintro e w' ⟨rfl, rfl⟩)
    refine (l1Term_any a d c b n _ _ (by refine ⟨?_, ?_, ?_, ?_, ?_, ?_⟩ <;> first | (simp [go_sem]; done) | (simp; omega))).mono ?_
    rintro e w' ⟨rfl, hb⟩
    obtain ⟨hc, hf⟩ := bcell hb
    obtain ⟨z0, z1, z2, z3, z4, z5⟩ := c5_on (x := w.heap.size + 1) (a := 0) (b := 0) (c := 0) (d := 0) (n := 0) (by refine ⟨?_, ?_, ?_, ?_, ?_, ?_⟩ <;> first | (simp [go_sem]; done) | (simp; omega)) hb
    have hzz := hb.size
    simp at hzz
    have hbb := below_step (B := w.heap.size) (w := w) (by go_grown) hb (by simp; omega)
    go_wp2
    refine bodyPost_ret (v := .tuple #[.agg #[.int .i64 a, .int .i64 d, .int .i64 c, .int .i64 b, .int .i64 n], .bool true]) (by simp [results, Try.results70, go_sem, z1, z2, z3, z4, z5]) rfl ⟨rfl, ?_⟩
    go_grown
  · go_enter Try.func70, Try.ntmps70
    go_wp2_with fail
    refine (specTermValid_is _ _ _ _ _ true _ H1.out).mono ?_
    rintro e w' ⟨rfl, rfl⟩
    go_wp2_with fail
    refine (HV.out _).mono ?_
    rintro e w' ⟨rfl, rfl⟩
    go_wp2_with fail
    refine (HU.out _).mono ?_
    rintro e w' ⟨rfl, rfl⟩
    go_wp2_with (go_at_call 105; refine (l1List_any _ _ _ _ _ _).mono ?_; rintro e w' ⟨rfl, rfl⟩)
    refine (l1Term_any a b d c n _ _ (by refine ⟨?_, ?_, ?_, ?_, ?_, ?_⟩ <;> first | (simp [go_sem]; done) | (simp; omega))).mono ?_
    rintro e w' ⟨rfl, hb⟩
    obtain ⟨hc, hf⟩ := bcell hb
    obtain ⟨z0, z1, z2, z3, z4, z5⟩ := c5_on (x := w.heap.size + 1) (a := 0) (b := 0) (c := 0) (d := 0) (n := 0) (by refine ⟨?_, ?_, ?_, ?_, ?_, ?_⟩ <;> first | (simp [go_sem]; done) | (simp; omega)) hb
    have hzz := hb.size
    simp at hzz
    have hbb := below_step (B := w.heap.size) (w := w) (by go_grown) hb (by simp; omega)
    go_wp2
    refine bodyPost_ret (v := .tuple #[.agg #[.int .i64 a, .int .i64 b, .int .i64 d, .int .i64 c, .int .i64 n], .bool true]) (by simp [results, Try.results70, go_sem, z1, z2, z3, z4, z5]) rfl ⟨rfl, ?_⟩
    go_grown
  · go_enter Try.func70, Try.ntmps70
    go_wp2_with fail
    refine (specTermValid_is _ _ _ _ _ true _ H1.out).mono ?_
    rintro e w' ⟨rfl, rfl⟩
    go_wp2_with fail
    refine (HV.out _).mono ?_
    rintro e w' ⟨rfl, rfl⟩
    go_wp2_with fail
    refine (HU.out _).mono ?_
    rintro e w' ⟨rfl, rfl⟩
    go_wp2_with (go_at_call 105; refine (l1List_any _ _ _ _ _ _).mono ?_; rintro e w' ⟨rfl, rfl⟩)
    refine (l1Term_any a b c d n _ _ (by refine ⟨?_, ?_, ?_, ?_, ?_, ?_⟩ <;> first | (simp [go_sem]; done) | (simp; omega))).mono ?_
    rintro e w' ⟨rfl, hb⟩
    obtain ⟨hc, hf⟩ := bcell hb
    obtain ⟨z0, z1, z2, z3, z4, z5⟩ := c5_on (x := w.heap.size + 1) (a := 0) (b := 0) (c := 0) (d := 0) (n := 0) (by refine ⟨?_, ?_, ?_, ?_, ?_, ?_⟩ <;> first | (simp [go_sem]; done) | (simp; omega)) hb
    have hzz := hb.size
    simp at hzz
    have hbb := below_step (B := w.heap.size) (w := w) (by go_grown) hb (by simp; omega)
    go_wp2
    refine bodyPost_ret (v := .tuple #[.agg #[.int .i64 a, .int .i64 b, .int .i64 c, .int .i64 d, .int .i64 n], .bool true]) (by simp [results, Try.results70, go_sem, z1, z2, z3, z4, z5]) rfl ⟨rfl, ?_⟩
    go_grown

theorem specSwapVars_ok (a b c d n v u A B C D : Int) (w : World) (h1 : tvB a b c d n = true) (hv : 0 ≤ v ∧ v < 4) (hu : 0 ≤ u ∧ u < 4)
    (hA : (if v = 0 then sel a b c d u 0 else if u = 0 then sel a b c d v 0 else a) = A) (hB : (if v = 1 then sel a b c d u 0 else if u = 1 then sel a b c d v 0 else b) = B) (hC : (if v = 2 then sel a b c d u 0 else if u = 2 then sel a b c d v 0 else c) = C) (hD : (if v = 3 then sel a b c d u 0 else if u = 3 then sel a b c d v 0 else d) = D) :
    Calls Try.prog 70 #[.agg #[.int .i64 a, .int .i64 b, .int .i64 c, .int .i64 d, .int .i64 n], .int .i64 v, .int .i64 u] w fun e w' => e = .returned (.tuple #[.agg #[.int .i64 A, .int .i64 B, .int .i64 C, .int .i64 D, .int .i64 n], .bool true]) ∧ Below w.heap.size w w' := by
  subst hA hB hC hD
  have h' : v = 0 ∨ v = 1 ∨ v = 2 ∨ v = 3 := by omega
  rcases h' with rfl | rfl | rfl | rfl
  · exact specSwapVars_0 a b c d n u w h1 hu
  · exact specSwapVars_1 a b c d n u w h1 hu
  · exact specSwapVars_2 a b c d n u w h1 hu
  · exact specSwapVars_3 a b c d n u w h1 hu

set_option maxHeartbeats 400000 in
theorem specSwapVars_bad (a b c d n v u : Int) (w : World) (h : (tvB a b c d n && varB v && varB u) = false) :
    Calls Try.prog 70 #[.agg #[.int .i64 a, .int .i64 b, .int .i64 c, .int .i64 d, .int .i64 n], .int .i64 v, .int .i64 u] w fun e w' => e = .returned (.tuple #[.agg #[.int .i64 0, .int .i64 0, .int .i64 0, .int .i64 0, .int .i64 0], .bool false]) ∧ Below w.heap.size w w' := by
  by_cases h1 : tvB a b c d n = true
  · have H1 := Lib.hid h1
    by_cases h2 : varB v = true
    · have h3 : varB u = false := by simpa [h1, h2] using h
      have HV := Lib.hid fun W => l1Var_is v true W h2
      have HU := Lib.hid fun W => l1Var_is u false W h3
      clear h h1 h2 h3
      go_enter Try.func70, Try.ntmps70
      go_wp2_with fail
      refine (specTermValid_is _ _ _ _ _ true _ H1.out).mono ?_
      rintro e w' ⟨rfl, rfl⟩
      go_wp2_with fail
      refine (HV.out _).mono ?_
      rintro e w' ⟨rfl, rfl⟩
      go_wp2_with fail
      refine (HU.out _).mono ?_
      rintro e w' ⟨rfl, rfl⟩
      go_wp2
      refine bodyPost_ret (v := .tuple #[.agg #[.int .i64 0, .int .i64 0, .int .i64 0, .int .i64 0, .int .i64 0], .bool false]) (by simp [results, Try.results70, go_sem]) rfl ⟨rfl, ?_⟩
      go_grown
    · have h3 : varB v = false := by simpa using h2
      have HV := Lib.hid fun W => l1Var_is v false W h3
      clear h h1 h2 h3
      go_enter Try.func70, Try.ntmps70
      go_wp2_with fail
      refine (specTermValid_is _ _ _ _ _ true _ H1.out).mono ?_
      rintro e w' ⟨rfl, rfl⟩
      go_wp2_with fail
      refine (HV.out _).mono ?_
      rintro e w' ⟨rfl, rfl⟩
      go_wp2
      refine bodyPost_ret (v := .tuple #[.agg #[.int .i64 0, .int .i64 0, .int .i64 0, .int .i64 0, .int .i64 0], .bool false]) (by simp [results, Try.results70, go_sem]) rfl ⟨rfl, ?_⟩
      go_grown
  · have h2 : tvB a b c d n = false := by simpa using h1
    have H2 := Lib.hid h2
    clear h h1 h2
    go_enter Try.func70, Try.ntmps70
    go_wp2_with fail
    refine (specTermValid_is _ _ _ _ _ false _ H2.out).mono ?_
    rintro e w' ⟨rfl, rfl⟩
    go_wp2
    refine bodyPost_ret (v := .tuple #[.agg #[.int .i64 0, .int .i64 0, .int .i64 0, .int .i64 0, .int .i64 0], .bool false]) (by simp [results, Try.results70, go_sem]) rfl ⟨rfl, ?_⟩
    go_grown

end Go.Proofs.Ythphlkfofbdncaa

/- Encode: the contracts of cnf.Check and cnf.Holds of a formula whose literals are in their range. -/
import Derived.Test.YtbgdhfnfbahdhabEncW
import Derived.Test.YtbgdhfnfbahdhabSimQ
namespace Go.Proofs.Ytbgdhfnfbahdhab
open Go.RowKit

theorem i64_inV {x : Int} (h : -9223372036854775808 ≤ x ∧ x ≤ 9223372036854775807) : IntKind.i64.wrap x = x := by rw [IntKind.wrap_i64]; omega
theorem run_cellI {w : World} {A : Option Addr} {zs : List Int} {k : Nat} {x : Int} (h : Run 1 encI w A zs) (hk : zs[k]? = some x) : ∃ b off, A = some ⟨b, off, none⟩ ∧ b < w.heap.size ∧ w.cell? ⟨b, off + k, none⟩ = some (.int .i64 x) := by
  obtain ⟨b, off, e, hb, hc⟩ := h k x hk
  have := hc 0 _ rfl
  simp only [Nat.mul_one, Nat.add_zero] at this
  exact ⟨b, off, e, hb, this⟩
/-- The literals of a clause are in their range. -/
def LitsN (n : Nat) (xs : List Int) : Prop := xs.length ≤ 16384 ∧ ∀ x ∈ xs, x ≠ 0 ∧ x.natAbs ≤ n

set_option maxHeartbeats 400000 in
set_option maxRecDepth 100000 in
theorem cIsLit_any (w : World) (x : Int) (n : Nat) (hn : n ≤ 262144) (h0 : x ≠ 0) (h1 : x.natAbs ≤ n) : Calls Try.prog 46 #[.int .i64 x, .int .i64 n] w fun e w' => e = .returned (.bool true) ∧ w' = w := by
  have hq : (x != 0) = true := by simpa using h0
  have hw : IntKind.i64.wrap (-(n : Int)) = -(n : Int) := i64_inV (by omega)
  have h2 : -(n : Int) ≤ x := by omega
  have h3 : x ≤ (n : Int) := by omega
  clear h1
  go_enter Try.func46, Try.ntmps46
  go_wp2
  go_ret
  exact ⟨rfl, rfl⟩
set_option maxHeartbeats 400000 in
set_option maxRecDepth 100000 in
theorem lIsForm_any (w : World) (x : Int) (h0 : x ≠ 0) (h1 : x.natAbs ≤ 262144) : Calls Try.prog 55 #[.int .i64 x] w fun e w' => e = .returned (.bool true) ∧ w' = w := by
  have hq : (x != 0) = true := by simpa using h0
  have h2 : -262144 ≤ x := by omega
  have h3 : x ≤ 262144 := by omega
  clear h1
  go_enter Try.func55, Try.ntmps55
  go_wp2
  go_ret
  exact ⟨rfl, rfl⟩
set_option maxHeartbeats 400000 in
set_option maxRecDepth 100000 in
theorem lVar_any (w : World) (x : Int) (h1 : x.natAbs ≤ 262144) : Calls Try.prog 48 #[.int .i64 x] w fun e w' => e = .returned (.int .i64 (x.natAbs : Int)) ∧ w' = w := by
  have hw : IntKind.i64.wrap (-x) = -x := i64_inV (by omega)
  have hm : max x (-x) = (x.natAbs : Int) := by omega
  by_cases h0 : -x ≤ x
  · have e : (x.natAbs : Int) = x := by omega
    rw [e]
    rw [e] at hm
    clear h1
    go_enter Try.func48, Try.ntmps48
    go_wp2
    go_ret
    exact ⟨ret_int (by omega), rfl⟩
  · have e : (x.natAbs : Int) = -x := by omega
    rw [e]
    rw [e] at hm
    clear h1
    go_enter Try.func48, Try.ntmps48
    go_wp2
    go_ret
    exact ⟨ret_int (by omega), rfl⟩

set_option maxHeartbeats 1000000 in
set_option maxRecDepth 100000 in
theorem cCheckList_any (w : World) (v : Value) (xs : List Int) (n : Nat) (hn : n ≤ 262144) (hv : RowE 1 encI w v xs) (h : LitsN n xs) : Calls Try.prog 33 #[v, .int .i64 n] w fun e w' => e = .returned (.int .i64 0) ∧ w' = w := by
  obtain ⟨A, c, rfl, _, _, hr⟩ := hv
  obtain ⟨hl, hx⟩ := h
  obtain ⟨k, hk⟩ : ∃ k, xs.length = k := ⟨_, rfl⟩
  rw [hk] at hl ⊢
  have HR := Lib.hid hr
  have HXS := Lib.hid hx
  have HK := Lib.hid hk
  clear hr hx hk
  go_enter Try.func33, Try.ntmps33
  go_wp2
  go_loopg [12] k (fun g i wx => ∃ q : Nat, q ≤ k ∧ g = k - q ∧ i = .int .i64 q ∧ wx = w)
  case atStart => exact ⟨0, Nat.zero_le _, rfl, rfl, rfl⟩
  case round =>
    obtain ⟨q, hq, hgk, rfl, rfl⟩ := hrel
    subst hgk
    by_cases hlt : q < k
    · obtain ⟨x, hx⟩ : ∃ x, xs[q]? = some x := ⟨_, List.getElem?_eq_getElem (by rw [HK.out]; exact hlt)⟩
      obtain ⟨b, off, e, hb, hc⟩ := run_cellI HR.out hx
      subst e
      have hxx := HXS.out x (List.mem_of_getElem? hx)
      have HIS := Lib.hid (cIsLit_any wr x n hn hxx.1 hxx.2)
      clear hx hxx
      go_wp2_with (go_at_call 46; refine HIS.out.mono ?_; rintro e w3 ⟨rfl, hw3⟩; rw [hw3]; clear hw3 w3)
      go_roundg (k - (q + 1))
      case measure => omega
      case rel => exact ⟨q + 1, by omega, rfl, by go_num, rfl⟩
    · have hqe : k = q := by omega
      subst hqe
      clear hlt hq
      go_wp2
      go_ret
      exact ⟨rfl, rfl⟩
set_option maxHeartbeats 1000000 in
set_option maxRecDepth 100000 in
theorem lCheck_any (w : World) (v : Value) (xs : List Int) (hv : RowE 1 encI w v xs) (h : LitsN 262144 xs) : Calls Try.prog 47 #[v] w fun e w' => e = .returned (.int .i64 0) ∧ w' = w := by
  obtain ⟨A, c, rfl, _, _, hr⟩ := hv
  obtain ⟨hl, hx⟩ := h
  obtain ⟨k, hk⟩ : ∃ k, xs.length = k := ⟨_, rfl⟩
  rw [hk] at hl ⊢
  have HR := Lib.hid hr
  have HXS := Lib.hid hx
  have HK := Lib.hid hk
  clear hr hx hk
  go_enter Try.func47, Try.ntmps47
  go_wp2
  go_loopg [10] k (fun g i wx => ∃ q : Nat, q ≤ k ∧ g = k - q ∧ i = .int .i64 q ∧ wx = w)
  case atStart => exact ⟨0, Nat.zero_le _, rfl, rfl, rfl⟩
  case round =>
    obtain ⟨q, hq, hgk, rfl, rfl⟩ := hrel
    subst hgk
    by_cases hlt : q < k
    · obtain ⟨x, hx⟩ : ∃ x, xs[q]? = some x := ⟨_, List.getElem?_eq_getElem (by rw [HK.out]; exact hlt)⟩
      obtain ⟨b, off, e, hb, hc⟩ := run_cellI HR.out hx
      subst e
      have hxx := HXS.out x (List.mem_of_getElem? hx)
      have HIS := Lib.hid (lIsForm_any wr x hxx.1 hxx.2)
      clear hx hxx
      go_wp2_with (go_at_call 55; refine HIS.out.mono ?_; rintro e w3 ⟨rfl, hw3⟩; rw [hw3]; clear hw3 w3)
      go_roundg (k - (q + 1))
      case measure => omega
      case rel => exact ⟨q + 1, by omega, rfl, by go_num, rfl⟩
    · have hqe : k = q := by omega
      subst hqe
      clear hlt hq
      go_wp2
      go_ret
      exact ⟨rfl, rfl⟩

theorem any_takeV {p : Int → Bool} {xs : List Int} {q : Nat} {x : Int} (h : xs[q]? = some x) : (xs.take (q + 1)).any p = ((xs.take q).any p || p x) := by
  rw [List.take_add_one, h, List.any_append]; simp
theorem all_takeV {α : Type} {p : α → Bool} {xs : List α} {q : Nat} {x : α} (h : xs[q]? = some x) : (xs.take (q + 1)).all p = ((xs.take q).all p && p x) := by
  rw [List.take_add_one, h, List.all_append]; simp
set_option maxHeartbeats 4000000 in
set_option maxRecDepth 100000 in
theorem lValue_any (w : World) (v u : Value) (xs : List Int) (T : List Bool) (n : Nat) (hn : n ≤ 262144) (hv : RowE 1 encI w v xs) (hu : RowE 1 encO w u T) (hT : T.length = n) (h : LitsN n xs) :
    Calls Try.prog 34 #[v, u] w fun e w' => e = .returned (.tuple #[.bool (clauseV T xs), .int .i64 0]) ∧ w' = w := by
  have hck := lCheck_any w v xs hv ⟨h.1, fun x hx => ⟨(h.2 x hx).1, by have := (h.2 x hx).2; omega⟩⟩
  obtain ⟨A, c, rfl, _, _, hr⟩ := hv
  obtain ⟨A2, c2, rfl, _, _, hr2⟩ := hu
  obtain ⟨hl, hx⟩ := h
  obtain ⟨k, hk⟩ : ∃ k, xs.length = k := ⟨_, rfl⟩
  obtain ⟨cr, hcr⟩ : ∃ b, clauseV T xs = b := ⟨_, rfl⟩
  rw [hk] at hl hck ⊢
  rw [hT, hcr]
  have HCR := Lib.hid hcr
  clear hcr
  have HR := Lib.hid hr
  have HR2 := Lib.hid hr2
  have HXS := Lib.hid hx
  have HK := Lib.hid hk
  have HT := Lib.hid hT
  have HCK := Lib.hid hck
  clear hr hr2 hx hk hT hck
  go_enter Try.func34, Try.ntmps34
  go_wp2_with (go_at_call 47; refine HCK.out.mono ?_; rintro e w1 ⟨rfl, hw1⟩; rw [hw1]; clear hw1 w1)
  go_loopg [7, 20] k (fun g b i wx => ∃ (q : Nat), q ≤ k ∧ g = k - q ∧ i = .int .i64 q ∧ b = .bool ((xs.take q).any (trueC T)) ∧ wx = w)
  case atStart => exact ⟨0, Nat.zero_le _, rfl, rfl, rfl, rfl⟩
  case round =>
    obtain ⟨q, hq, hgk, rfl, hbe, rfl⟩ := hrel
    subst hgk
    obtain ⟨bv, hbv⟩ : ∃ b, (xs.take q).any (trueC T) = b := ⟨_, rfl⟩
    rw [hbv] at hbe
    subst hbe
    by_cases hlt : q < k
    · obtain ⟨x, hx⟩ : ∃ x, xs[q]? = some x := ⟨_, List.getElem?_eq_getElem (by rw [HK.out]; exact hlt)⟩
      obtain ⟨b, off, e, hb, hc⟩ := run_cellI HR.out hx
      subst e
      have hxx := HXS.out x (List.mem_of_getElem? hx)
      obtain ⟨a, ha⟩ : ∃ a : Nat, x.natAbs = a + 1 := ⟨x.natAbs - 1, by omega⟩
      have hv := lVar_any wr x (by omega)
      rw [ha] at hv
      have HV := Lib.hid hv
      obtain ⟨bb, hbb⟩ : ∃ bb, T[a]? = some bb := ⟨_, List.getElem?_eq_getElem (by rw [HT.out]; omega)⟩
      obtain ⟨b2, off2, e, hb2, hc2⟩ := HR2.out a bb hbb
      subst e
      have hc3 := hc2 0 _ rfl
      simp only [Nat.mul_one, Nat.add_zero] at hc3
      have hte : trueC T x = (bb == decide (0 < x)) := by
        unfold trueC
        rw [ha, Nat.add_sub_cancel, List.getD_eq_getElem?_getD, hbb]; rfl
      have HTK : Hid ((xs.take (q + 1)).any (trueC T) = (bv || (bb == decide (0 < x)))) := Lib.hid (by rw [any_takeV hx, hbv, hte])
      have han : a + 1 ≤ n := by have := hxx.2; omega
      clear hx hxx hv hbb hc2 hte ha hbv
      by_cases hp : 0 < x
      · rw [decide_eq_true hp] at HTK
        cases bb
        · go_wp2_with (go_at_call 48; refine HV.out.mono ?_; rintro e w3 ⟨rfl, hw3⟩; rw [hw3]; clear hw3 w3)
          go_roundg (k - (q + 1))
          case measure => omega
          case rel => exact ⟨q + 1, by omega, rfl, by go_num, by rw [HTK.out]; simp, rfl⟩
        · go_wp2_with (go_at_call 48; refine HV.out.mono ?_; rintro e w3 ⟨rfl, hw3⟩; rw [hw3]; clear hw3 w3)
          go_roundg (k - (q + 1))
          case measure => omega
          case rel => exact ⟨q + 1, by omega, rfl, by go_num, by rw [HTK.out]; simp, rfl⟩
      · rw [decide_eq_false hp] at HTK
        have hp2 : x ≤ 0 := by omega
        have hp3 : (false == decide (0 < x)) = true := by rw [decide_eq_false hp]; rfl
        have hp4 : (true == decide (0 < x)) = false := by rw [decide_eq_false hp]; rfl
        cases bb
        · go_wp2_with (go_at_call 48; refine HV.out.mono ?_; rintro e w3 ⟨rfl, hw3⟩; rw [hw3]; clear hw3 w3)
          go_roundg (k - (q + 1))
          case measure => omega
          case rel => exact ⟨q + 1, by omega, rfl, by go_num, by rw [HTK.out]; simp, rfl⟩
        · go_wp2_with (go_at_call 48; refine HV.out.mono ?_; rintro e w3 ⟨rfl, hw3⟩; rw [hw3]; clear hw3 w3)
          go_roundg (k - (q + 1))
          case measure => omega
          case rel => exact ⟨q + 1, by omega, rfl, by go_num, by rw [HTK.out]; simp, rfl⟩
    · have hqe : k = q := by omega
      subst hqe
      have HF : Hid (bv = cr) := Lib.hid (by rw [← hbv, ← HCR.out, List.take_of_length_le (by rw [HK.out]; exact Nat.le_refl _)]; rfl)
      clear hlt hq hbv
      go_wp2
      go_ret2
      exact ⟨congrArg (fun b => Ending.returned (.tuple #[.bool b, .int .i64 0])) HF.out, rfl⟩
set_option maxHeartbeats 400000 in
set_option maxRecDepth 100000 in
theorem cIsTrue_any (w : World) (v u : Value) (xs : List Int) (T : List Bool) (n : Nat) (hn : n ≤ 262144) (hv : RowE 1 encI w v xs) (hu : RowE 1 encO w u T) (hT : T.length = n) (h : LitsN n xs) :
    Calls Try.prog 15 #[v, u] w fun e w' => e = .returned (.bool (clauseV T xs)) ∧ w' = w := by
  have HV := Lib.hid (lValue_any w v u xs T n hn hv hu hT h)
  obtain ⟨A, k, c, rfl⟩ := sl_form hv
  obtain ⟨A2, k2, c2, rfl⟩ := sl_form hu
  generalize clauseV T xs = b at *
  clear hv hu hT h
  go_enter Try.func15, Try.ntmps15
  go_wp2_with (go_at_call 34; refine HV.out.mono ?_; rintro e w1 ⟨rfl, hw1⟩; rw [hw1]; clear hw1 w1)
  go_ret
  exact ⟨rfl, rfl⟩
set_option maxHeartbeats 2000000 in
set_option maxRecDepth 100000 in
theorem cCheck_any (w : World) (v : Value) (F : List (List Int)) (n : Nat) (hn : n ≤ 262144) (hv : Lists w v F) (hF : F.length ≤ 524288) (h : ∀ xs ∈ F, LitsN n xs) :
    Calls Try.prog 14 #[.agg #[.int .i64 n, v]] w fun e w' => e = .returned (.tuple #[.int .i64 0, .int .i64 0]) ∧ Below w.heap.size w w' := by
  obtain ⟨vs, hv1, hv2, hv3⟩ := hv
  obtain ⟨A, c, rfl, _, _, hr⟩ := hv1
  obtain ⟨k, hk⟩ : ∃ k, vs.length = k := ⟨_, rfl⟩
  have hkF : k ≤ 524288 := by omega
  have HKF : Hid (F.length = k) := Lib.hid (by omega)
  rw [hk]
  have HB0 : Hid (Below w.heap.size w (w.alloc (.cells #[.int .i64 n, .slice A k c] 34))) := Lib.hid ((Below.refl _ _).alloc (Nat.le_refl _) _)
  have hbx := Blk.new w 34 #[.int .i64 n, .slice A k c]
  have b0 := hbx.cell 0
  have b1 := hbx.cell 1
  simp only [List.getElem?_toArray, List.getElem?_cons_zero, List.getElem?_cons_succ] at b0 b1
  have HR := Lib.hid hr
  have HV3 := Lib.hid hv3
  have HH := Lib.hid h
  have HK := Lib.hid hk
  have hn0 : ¬ (n : Int) < 0 := by omega
  have hn1 : ¬ (262144 : Int) < (n : Int) := by omega
  clear hr hv3 h hk hv2 hbx hF
  go_enter Try.func14, Try.ntmps14
  go_wp2
  go_loopg [22] k (fun g i wx => ∃ q : Nat, q ≤ k ∧ g = k - q ∧ i = .int .i64 q ∧ wx = w.alloc (.cells #[.int .i64 n, .slice A k c] 34))
  case atStart => exact ⟨0, Nat.zero_le _, rfl, rfl, rfl⟩
  case round =>
    obtain ⟨q, hq, hgk, rfl, hwr⟩ := hrel
    subst hgk
    subst hwr
    by_cases hlt : q < k
    · obtain ⟨u, hu⟩ : ∃ x, vs[q]? = some x := ⟨_, List.getElem?_eq_getElem (by rw [HK.out]; exact hlt)⟩
      obtain ⟨xs, hx⟩ : ∃ x, F[q]? = some x := ⟨_, List.getElem?_eq_getElem (by rw [HKF.out]; exact hlt)⟩
      obtain ⟨b, off, e, hb, hc⟩ := HR.out q u hu
      subst e
      have h0 := (HB0.out.cell (p := ⟨b, off + (q * 1 + 0), none⟩) hb).trans (hc 0 _ rfl)
      simp only [Nat.mul_one, Nat.add_zero] at h0
      have hrow := HV3.out q u xs hu hx
      have HCL := Lib.hid (cCheckList_any _ u xs n hn (hrow.below HB0.out) (HH.out xs (List.mem_of_getElem? hx)))
      obtain ⟨A5, k5, c5, hue⟩ := sl_form hrow
      subst hue
      clear hu hx hc hrow
      go_wp2_with (go_at_call 33; refine HCL.out.mono ?_; rintro e w3 ⟨rfl, hw3⟩; rw [hw3]; clear hw3 w3)
      go_roundg (k - (q + 1))
      case measure => omega
      case rel => exact ⟨q + 1, by omega, rfl, by go_num, rfl⟩
    · have hqe : k = q := by omega
      subst hqe
      clear hlt hq
      go_wp2
      go_ret2
      exact ⟨rfl, HB0.out⟩
set_option maxHeartbeats 2000000 in
set_option maxRecDepth 100000 in
theorem cHolds_any (w : World) (v u : Value) (F : List (List Int)) (T : List Bool) (n : Nat) (hn : n ≤ 262144) (hv : Lists w v F) (hF : F.length ≤ 524288) (h : ∀ xs ∈ F, LitsN n xs) (hu : RowE 1 encO w u T) (hT : T.length = n) :
    Calls Try.prog 7 #[.agg #[.int .i64 n, v], u] w fun e w' => (∃ i, e = .returned (.tuple #[.bool (holdsC T F), .int .i64 i, .int .i64 0])) ∧ Below w.heap.size w w' := by
  have HB0 : Hid (Below w.heap.size w (w.alloc (.cells #[.int .i64 n, v] 34))) := Lib.hid ((Below.refl _ _).alloc (Nat.le_refl _) _)
  have hck := cCheck_any (w.alloc (.cells #[.int .i64 n, v] 34)) v F n hn (hv.below HB0.out) hF h
  obtain ⟨vs, hv1, hv2, hv3⟩ := hv
  obtain ⟨A, c, rfl, _, _, hr⟩ := hv1
  obtain ⟨k, hk⟩ : ∃ k, vs.length = k := ⟨_, rfl⟩
  have hkF : k ≤ 524288 := by omega
  have HKF : Hid (F.length = k) := Lib.hid (by omega)
  obtain ⟨hr0, hh0⟩ : ∃ b, holdsC T F = b := ⟨_, rfl⟩
  rw [hk] at HB0 hck ⊢
  rw [hh0]
  have HHR := Lib.hid hh0
  clear hh0
  have hbx := Blk.new w 34 #[.int .i64 n, .slice A k c]
  have HBX := Lib.hid hbx
  have HU := Lib.hid hu
  obtain ⟨UA, uc, hue, _, _, _⟩ := hu
  rw [hT] at hue
  subst hue
  have b0 := hbx.cell 0
  have b1 := hbx.cell 1
  simp only [List.getElem?_toArray, List.getElem?_cons_zero, List.getElem?_cons_succ] at b0 b1
  have HR := Lib.hid hr
  have HV3 := Lib.hid hv3
  have HH := Lib.hid h
  have HK := Lib.hid hk
  have HT := Lib.hid hT
  have HCK := Lib.hid hck
  have hnn : ((n : Int) != (n : Int)) = false := by simp
  clear hr hv3 h hk hv2 hbx hF hT hck
  go_enter Try.func7, Try.ntmps7
  go_wp2_with (go_at_call 14; refine HCK.out.mono ?_; rintro e w1 ⟨rfl, hb1⟩; have HB1 := Lib.hid hb1; have hbx1 := HBX.out.below hb1 HBX.out.lt; clear b0 b1; have b0 := hbx1.cell 0; have b1 := hbx1.cell 1; simp only [List.getElem?_toArray, List.getElem?_cons_zero, List.getElem?_cons_succ] at b0 b1; clear hb1)
  have HBW : Hid (Below w.heap.size w w1) := Lib.hid (bt HB0.out (Nat.le_refl _) HB1.out)
  go_loopg [27] k (fun g i wx => ∃ q : Nat, q ≤ k ∧ g = k - q ∧ i = .int .i64 q ∧ wx = w1 ∧ (F.take q).all (clauseV T) = true)
  case atStart => exact ⟨0, Nat.zero_le _, rfl, rfl, rfl, rfl⟩
  case round =>
    obtain ⟨q, hq, hgk, rfl, hwr, hal⟩ := hrel
    subst hgk
    subst hwr
    by_cases hlt : q < k
    · obtain ⟨u, hu⟩ : ∃ x, vs[q]? = some x := ⟨_, List.getElem?_eq_getElem (by rw [HK.out]; exact hlt)⟩
      obtain ⟨xs, hx⟩ : ∃ x, F[q]? = some x := ⟨_, List.getElem?_eq_getElem (by rw [HKF.out]; exact hlt)⟩
      obtain ⟨b, off, e, hb, hc⟩ := HR.out q u hu
      subst e
      have h0 := (HBW.out.cell (p := ⟨b, off + (q * 1 + 0), none⟩) hb).trans (hc 0 _ rfl)
      simp only [Nat.mul_one, Nat.add_zero] at h0
      have hrow := HV3.out q u xs hu hx
      have htr := cIsTrue_any wr u _ xs T n hn (hrow.below HBW.out) (HU.out.below HBW.out) HT.out (HH.out xs (List.mem_of_getElem? hx))
      obtain ⟨cv, hcv⟩ : ∃ cv, clauseV T xs = cv := ⟨_, rfl⟩
      rw [hcv] at htr
      have HTR := Lib.hid htr
      have HTK : Hid ((F.take (q + 1)).all (clauseV T) = cv) := Lib.hid (by rw [all_takeV hx, hal, hcv]; rfl)
      have HFA : Hid (cv = false → hr0 = false) := Lib.hid (fun hf => by
        rw [← HHR.out]
        unfold holdsC
        rw [List.all_eq_false]
        exact ⟨xs, List.mem_of_getElem? hx, by rw [hcv, hf]; simp⟩)
      obtain ⟨A5, k5, c5, hue⟩ := sl_form hrow
      subst hue
      clear hu hx hc hrow htr hal hcv
      cases cv
      · go_wp2_with (go_at_call 15; refine HTR.out.mono ?_; rintro e w3 ⟨rfl, hw3⟩; rw [hw3]; clear hw3 w3)
        go_ret3
        exact ⟨⟨q, congrArg (fun b => Ending.returned (.tuple #[.bool b, .int .i64 (q : Int), .int .i64 0])) (HFA.out (by first | rfl | trivial)).symm⟩, HBW.out⟩
      · go_wp2_with (go_at_call 15; refine HTR.out.mono ?_; rintro e w3 ⟨rfl, hw3⟩; rw [hw3]; clear hw3 w3)
        go_roundg (k - (q + 1))
        case measure => omega
        case rel => exact ⟨q + 1, by omega, rfl, by go_num, rfl, HTK.out⟩
    · have hqe : k = q := by omega
      subst hqe
      have HE : Hid (hr0 = true) := Lib.hid (by rw [← HHR.out, ← hal, List.take_of_length_le (by rw [HKF.out]; exact Nat.le_refl _)]; rfl)
      clear hlt hq hal
      go_wp2
      go_ret3
      exact ⟨⟨0, congrArg (fun b => Ending.returned (.tuple #[.bool b, .int .i64 0, .int .i64 0])) HE.out.symm⟩, HBW.out⟩
end Go.Proofs.Ytbgdhfnfbahdhab

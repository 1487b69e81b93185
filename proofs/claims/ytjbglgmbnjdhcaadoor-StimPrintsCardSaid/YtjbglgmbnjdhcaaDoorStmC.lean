/- Stim: which properties may be. -/
import Derived.Test.YtjbglgmbnjdhcaaDoorStmP
import Derived.Test.YtjbglgmbnjdhcaaDoorStmShelf
import Derived.Lib.SmallJoins
import Derived.Lib.AppendIntMem
import Derived.Deep.RegionWith
import Derived.Laws.Tables
import Derived.Test.YtjbglgmbnjdhcaaDoorCheck3
namespace Go.Proofs.YtjbglgmbnjdhcaaDoor
open Go.RowKit

/-- A text. -/
def strB (l : Bs) : ByteArray := ⟨l.toArray⟩
theorem strB_list (l : Bs) : (strB l).data.toList = l := by simp [strB]
theorem strB_size (l : Bs) : (strB l).size = l.length := by rw [Lib.size_eq, strB_list]
theorem strB_toList (l : Bs) : (strB l).toList = l := by rw [Lib.toList_data, strB_list]
theorem strB_of (s : ByteArray) : strB s.data.toList = s := Lib.mk_data s
theorem strB_eq (a b : Bs) : ((strB a).toList == (strB b).toList) = decide (a = b) := by
  rw [strB_toList, strB_toList]
  by_cases h : a = b
  · subst h; simp
  · simp [h]
/-- What the library's functions read of the program's variables. -/
structure Lib0 (w : World) : Prop where
  tab : Lib.TabIs Tryd.prog w "internal/strconv.uint64pow10" .u64 Lib.pow10Tab
  syn : ∃ tp p, w.cell? ⟨2, 0, none⟩ = some (.iface tp p)
  rng : ∃ tp p, w.cell? ⟨3, 0, none⟩ = some (.iface tp p)
  max : ∃ m, w.cell? ⟨1, 0, none⟩ = some (.int .i64 m)
/-- It stands, whatever is made at B and above. -/
def LibB (B : Nat) (w : World) : Prop := ∀ w', Below B w w' → Lib0 w'
theorem LibB.on {B : Nat} {w w' : World} (h : LibB B w) (hb : Below B w w') : LibB B w' := fun w2 h2 => h w2 (hb.trans h2)
theorem LibB.here {B : Nat} {w : World} (h : LibB B w) : Lib0 w := h w (Below.refl _ _)
theorem LibB.up {B : Nat} {w w' : World} (h : LibB B w) (hB : B ≤ w.heap.size) (hb : Below w.heap.size w w') : LibB B w' := h.on (hb.mono hB)
theorem Itoa_any (w : World) (B n : Nat) (hn : n < 9223372036854775808) (lib : LibB B w) : Calls Tryd.prog 27 #[.int .i64 (n : Int)] w fun e w' => Below w.heap.size w w' ∧ e = .returned (.string (strB (dec n))) := by
  refine (Tryd.strconv_Itoa (n : Int) (by omega) (by omega) w lib.here.tab).mono ?_
  rintro e w' ⟨rfl, k, os, rfl⟩
  exact ⟨Lib.below_grow _ _ (Nat.le_refl _) k os, by rw [itoa_dec]; rfl⟩
theorem Atoi_any (w : World) (B : Nat) (l : Bs) (hl : l.length ≤ 262144) (lib : LibB B w) : Calls Tryd.prog 55 #[.string (strB l)] w fun e w' => Below w.heap.size w w' ∧ ∃ v er, e = .returned (.tuple #[.int .i64 v, er]) ∧ ((er = .nilIface ∧ Lib.atoiAll l = .ok v) ∨ (∃ t p, er = .iface t p ∧ ∀ x, Lib.atoiAll l ≠ .ok x)) := by
  have hs := strB_size l
  obtain ⟨t1, p1, h1⟩ := lib.here.syn
  obtain ⟨t2, p2, h2⟩ := lib.here.rng
  cases h : Lib.atoiAll l with
  | ok v =>
    refine (Tryd.strconv_Atoi_ok (strB l) (by omega) v (by rw [strB_list]; exact h) w).mono ?_
    rintro e w' ⟨rfl, hw⟩
    refine ⟨?_, v, _, rfl, .inl ⟨rfl, rfl⟩⟩
    rcases hw with rfl | ⟨t, rfl⟩
    · exact Below.refl _ _
    · exact Go.Joins.below_bytesWorld _ _ _ _ (Nat.le_refl _)
  | «syntax» =>
    refine (Tryd.strconv_Atoi_syntax (strB l) (by omega) (by rw [strB_list]; exact h) _ w h1 (.inr ⟨_, _, rfl⟩)).mono ?_
    rintro e w' ⟨N, rfl, _, _, hb⟩
    exact ⟨hb, _, _, rfl, .inr ⟨_, _, rfl, fun x hx => by cases hx⟩⟩
  | range =>
    refine (Tryd.strconv_Atoi_range (strB l) (by omega) (by rw [strB_list]; exact h) _ w h2 (.inr ⟨_, _, rfl⟩)).mono ?_
    rintro e w' ⟨N, rfl, _, _, hb⟩
    exact ⟨hb, _, _, rfl, .inr ⟨_, _, rfl, fun x hx => by cases hx⟩⟩
theorem numB_no {l : Bs} (h : ∀ x, Lib.atoiAll l ≠ .ok x) : numB l = none := by
  unfold numB
  split
  · rename_i v hv; exact absurd hv (h v)
  · rfl
set_option maxHeartbeats 2000000 in
set_option maxRecDepth 100000 in
theorem numberOf_any (w : World) (B : Nat) (l : Bs) (hl : l.length ≤ 262144) (lib : LibB B w) (hB : B ≤ w.heap.size) : Calls Tryd.prog 46 #[.string (strB l)] w fun e w' => Below w.heap.size w w' ∧ ∃ v, e = .returned (.tuple #[.int .i64 v, .bool (numB l).isSome]) ∧ ∀ n, numB l = some n → v = n := by
  have HAT := Lib.hid (Atoi_any w B l hl lib)
  have HIT := Lib.hid (fun (wx : World) (hb : Below w.heap.size w wx) (n : Nat) (hn : n < 9223372036854775808) => Itoa_any wx B n hn (lib.up hB hb))
  clear lib
  go_enter Tryd.func46, Tryd.ntmps46
  go_upto_region 2 with (go_at_call 55; refine HAT.out.mono ?_; rintro e w1 ⟨hb, v, er, rfl, hc⟩; have HB := Lib.hid hb; have HC := Lib.hid hc; clear hb hc)
  rcases HC.out with ⟨rfl, hv⟩ | ⟨t, p, rfl, hn⟩
  · by_cases h0 : 0 ≤ v
    · by_cases h1 : v < 16384
      · obtain ⟨n, rfl⟩ := Int.eq_ofNat_of_zero_le h0
        have hIT := HIT.out w1 HB.out n (by omega)
        by_cases h2 : dec n = l
        · have hq : ((strB (dec n)).toList == (strB l).toList) = true := by rw [strB_eq]; simpa using h2
          have HN : Hid (numB l = some n) := Lib.hid (by rw [← h2]; exact numB_dec (by omega))
          have HIT2 := Lib.hid hIT
          generalize strB (dec n) = sd at hq HIT2
          generalize strB l = sl at hq
          clear hIT h2 hv HC
          go_wp2_with (go_at_call 27; refine HIT2.out.mono ?_; rintro e w2 ⟨hb, rfl⟩; have HB2 := Lib.hid (bt HB.out (Nat.le_refl _) hb); clear hb)
          go_ret2
          refine ⟨HB2.out, _, by rw [HN.out]; rfl, fun m hm => ?_⟩
          rw [HN.out] at hm
          injection hm with hm
          rw [hm]
        · have hq : ((strB (dec n)).toList == (strB l).toList) = false := by rw [strB_eq]; simpa using h2
          have HN : Hid (numB l = none) := Lib.hid (by
            unfold numB
            rw [hv]
            simp only
            rw [if_neg (fun hc => h2 (by rw [← itoa_dec]; exact hc.2.2))])
          have HIT2 := Lib.hid hIT
          generalize strB (dec n) = sd at hq HIT2
          generalize strB l = sl at hq
          clear hIT h2 hv HC
          go_wp2_with (go_at_call 27; refine HIT2.out.mono ?_; rintro e w2 ⟨hb, rfl⟩; have HB2 := Lib.hid (bt HB.out (Nat.le_refl _) hb); clear hb)
          go_ret2
          refine ⟨HB2.out, _, by rw [HN.out]; rfl, fun m hm => ?_⟩
          rw [HN.out] at hm
          cases hm
      · have HN : Hid (numB l = none) := Lib.hid (by
          unfold numB
          rw [hv]
          simp only
          rw [if_neg (fun hc => h1 hc.2.1)])
        clear hv HC
        go_wp2
        go_ret2
        refine ⟨HB.out, _, by rw [HN.out]; rfl, fun m hm => ?_⟩
        rw [HN.out] at hm
        cases hm
    · have HN : Hid (numB l = none) := Lib.hid (by
        unfold numB
        rw [hv]
        simp only
        rw [if_neg (fun hc => h0 hc.1)])
      clear hv HC
      go_wp2
      go_ret2
      refine ⟨HB.out, _, by rw [HN.out]; rfl, fun m hm => ?_⟩
      rw [HN.out] at hm
      cases hm
  · have HN : Hid (numB l = none) := Lib.hid (numB_no hn)
    clear hn HC
    go_wp2
    go_ret2
    refine ⟨HB.out, _, by rw [HN.out]; rfl, fun m hm => ?_⟩
    rw [HN.out] at hm
    cases hm
theorem isCount_any (w : World) (n : Int) : Calls Tryd.prog 33 #[.int .i64 n] w fun e w' => e = .returned (.bool (decide (0 ≤ n ∧ n ≤ 16384))) ∧ w = w' := by
  by_cases h0 : 0 ≤ n
  · by_cases h1 : n ≤ 16384
    · rw [decide_eq_true (show 0 ≤ n ∧ n ≤ 16384 from ⟨h0, h1⟩)]
      go_enter Tryd.func33, Tryd.ntmps33
      go_wp2
      go_ret
      exact ⟨rfl, rfl⟩
    · rw [decide_eq_false (fun h : 0 ≤ n ∧ n ≤ 16384 => h1 h.2)]
      go_enter Tryd.func33, Tryd.ntmps33
      go_wp2
      go_ret
      exact ⟨rfl, rfl⟩
  · rw [decide_eq_false (fun h : 0 ≤ n ∧ n ≤ 16384 => h0 h.1)]
    go_enter Tryd.func33, Tryd.ntmps33
    go_wp2
    go_ret
    exact ⟨rfl, rfl⟩
def cntB (L n : Int) : Bool := decide (0 ≤ L ∧ L ≤ 16384) && decide (0 ≤ n ∧ n ≤ 16384)
theorem areCounts_any (w : World) (L n : Int) : Calls Tryd.prog 17 #[.int .i64 L, .int .i64 n] w fun e w' => e = .returned (.bool (cntB L n)) ∧ w = w' := by
  have H1 := Lib.hid (fun (wx : World) => isCount_any wx L)
  have H2 := Lib.hid (fun (wx : World) => isCount_any wx n)
  unfold cntB
  generalize decide (0 ≤ L ∧ L ≤ 16384) = b1 at H1 ⊢
  generalize decide (0 ≤ n ∧ n ≤ 16384) = b2 at H2 ⊢
  go_enter Tryd.func17, Tryd.ntmps17
  cases b1 with
  | true =>
    go_wp2_with (first
      | (go_at_call_of 33 (Value.int .i64 L); refine (H1.out _).mono ?_; rintro e w1 ⟨rfl, rfl⟩)
      | (go_at_call_of 33 (Value.int .i64 n); refine (H2.out _).mono ?_; rintro e w1 ⟨rfl, rfl⟩))
    go_ret
    exact ⟨rfl, rfl⟩
  | false =>
    go_wp2_with (first
      | (go_at_call_of 33 (Value.int .i64 L); refine (H1.out _).mono ?_; rintro e w1 ⟨rfl, rfl⟩))
    go_ret
    exact ⟨rfl, rfl⟩
end Go.Proofs.YtjbglgmbnjdhcaaDoor

namespace Go.Proofs.YtjbglgmbnjdhcaaDoor
open Go.RowKit

theorem results_cellS {fn : Func} {p q : Tmp} {ty : TypeId} {P : Program} (h : fn.results = #[.cell p ty, .tmp q]) (tmps : Array Value) (w : World) (g : Nat) (t : TypeId) (cs : Array Value) (fr : Nat × Nat) (d : TypeDesc)
    (hp : tmps.getD p undef = .pointer (some ⟨g, 0, none⟩)) (hg : w.heap[g]? = some (.cells cs t fr))
    (hu : P.underlying ty = some d) (hd : (match d with | .struct _ | .array _ _ => true | _ => false) = true) (hi : (P.info? ty).map (·.size) = some cs.size) (v : Value) (hv : tmps.getD q undef = v) :
    (results fn tmps).run P w = .ok (.tuple #[.agg cs, v]) w := by
  have hp' : tmps[p]?.getD undef = .pointer (some ⟨g, 0, none⟩) := by simpa using hp
  subst hv
  have hl := run_loadVar_row w g t ty cs fr d hg hu (by cases d <;> first | rfl | exact hd) hi
  simp [results, h, hp', asAddr, hl]
theorem results_cellT {fn : Func} {p q : Tmp} {ty ty2 : TypeId} {P : Program} (h : fn.results = #[.cell p ty, .cell q ty2]) (tmps : Array Value) (w : World) (g : Nat) (t : TypeId) (cs : Array Value) (fr : Nat × Nat) (d : TypeDesc)
    (hp : tmps.getD p undef = .pointer (some ⟨g, 0, none⟩)) (hg : w.heap[g]? = some (.cells cs t fr))
    (hu : P.underlying ty = some d) (hd : (match d with | .struct _ | .array _ _ => true | _ => false) = true) (hi : (P.info? ty).map (·.size) = some cs.size)
    (g2 : Nat) (t2 : TypeId) (cs2 : Array Value) (fr2 : Nat × Nat) (d2 : TypeDesc)
    (hp2 : tmps.getD q undef = .pointer (some ⟨g2, 0, none⟩)) (hg2 : w.heap[g2]? = some (.cells cs2 t2 fr2))
    (hu2 : P.underlying ty2 = some d2) (hd2 : (match d2 with | .struct _ | .array _ _ => true | _ => false) = true) (hi2 : (P.info? ty2).map (·.size) = some cs2.size) :
    (results fn tmps).run P w = .ok (.tuple #[.agg cs, .agg cs2]) w := by
  have hp' : tmps[p]?.getD undef = .pointer (some ⟨g, 0, none⟩) := by simpa using hp
  have hp2' : tmps[q]?.getD undef = .pointer (some ⟨g2, 0, none⟩) := by simpa using hp2
  have hl := run_loadVar_row w g t ty cs fr d hg hu (by cases d <;> first | rfl | exact hd) hi
  have hl2 := run_loadVar_row w g2 t2 ty2 cs2 fr2 d2 hg2 hu2 (by cases d2 <;> first | rfl | exact hd2) hi2
  simp [results, h, hp', hp2', asAddr, hl, hl2]
theorem below_setRow {B : Nat} {a w : World} {g : Nat} {cs : Array Value} (h : Below B a w) (hg : B ≤ g) : Below B a (w.setRow g cs) :=
  ⟨h.os, h.tape, h.output, by rw [size_setRow]; exact h.size, fun k hk => (setRow_other _ _ _ _ (by omega)).trans (h.block k hk)⟩
def encPp (p : Int × Int) : List Value := [.int .u8 p.1, .int .i64 p.2]
theorem lenPp (p : Int × Int) : (encPp p).length = 2 := rfl
def stB (l : Bs) : Option Nat := match numB l with | none => none | some n => if 2 < n then none else some n
set_option maxHeartbeats 2000000 in
theorem statusOf_any (w : World) (B : Nat) (l : Bs) (hl : l.length ≤ 262144) (lib : LibB B w) (hB : B ≤ w.heap.size) : Calls Tryd.prog 36 #[.string (strB l)] w fun e w' => Below w.heap.size w w' ∧ ∃ v, e = .returned (.tuple #[.int .i64 v, .bool (stB l).isSome]) ∧ ∀ n, stB l = some n → v = n := by
  have HNU := Lib.hid (numberOf_any w B l hl lib hB)
  obtain ⟨st, hst⟩ : ∃ x, stB l = x := ⟨_, rfl⟩
  rw [hst]
  unfold stB at hst
  cases hn : numB l with
  | none =>
    rw [hn] at hst HNU
    simp only at hst
    subst hst
    go_enter Tryd.func36, Tryd.ntmps36
    go_wp2_with (go_at_call 46; refine HNU.out.mono ?_; rintro e w1 ⟨hb, v, rfl, _⟩; have HB := Lib.hid hb; clear hb)
    go_ret2
    exact ⟨HB.out, _, rfl, fun n hn => by cases hn⟩
  | some n =>
    rw [hn] at hst HNU
    simp only at hst
    by_cases h2 : 2 < n
    · rw [if_pos h2] at hst
      subst hst
      have h3 : ¬ ((n : Int) ≤ 2) := by omega
      clear h2
      go_enter Tryd.func36, Tryd.ntmps36
      go_wp2_with (go_at_call 46; refine HNU.out.mono ?_; rintro e w1 ⟨hb, v, rfl, hv⟩; obtain rfl := hv n rfl; have HB := Lib.hid hb; clear hb hv)
      go_ret2
      exact ⟨HB.out, (n : Int), by simp [h3], fun n hn => by cases hn⟩
    · rw [if_neg h2] at hst
      subst hst
      have h3 : ((n : Int) ≤ 2) := by omega
      clear h2
      go_enter Tryd.func36, Tryd.ntmps36
      go_wp2_with (go_at_call 46; refine HNU.out.mono ?_; rintro e w1 ⟨hb, v, rfl, hv⟩; obtain rfl := hv n rfl; have HB := Lib.hid hb; clear hb hv)
      go_ret2
      exact ⟨HB.out, (n : Int), by simp, fun m hm => by injection hm with hm; rw [hm]⟩
theorem strB_drop (l : Bs) (k : Nat) : (strB l).extract k (strB l).size = strB (l.drop k) := by
  rw [Lib.extract_eq, strB_list, strB_size, List.take_of_length_le (by simp)]
  rfl
theorem loopW_pre (l : Bs) : Lib.hasPrefix l loopW = loopW.isPrefixOf l ∧ (loopW.isPrefixOf l = true → Lib.trimPrefix l loopW = l.drop 7) := by
  constructor
  · rfl
  · intro h
    unfold Lib.trimPrefix
    rw [show Lib.hasPrefix l loopW = loopW.isPrefixOf l from rfl, h]
    rfl
set_option maxHeartbeats 2000000 in
theorem loopOf_any (w : World) (B : Nat) (l : Bs) (hl : l.length ≤ 262144) (lib : LibB B w) (hB : B ≤ w.heap.size) : Calls Tryd.prog 51 #[.string (strB l)] w fun e w' => Below w.heap.size w w' ∧ ∃ v, e = .returned (.tuple #[.int .i64 v, .bool (loopB l).isSome]) ∧ ∀ n, loopB l = some n → v = n := by
  have hcp := Tryd.strings_CutPrefix (strB l) (strB loopW) w
  rw [strB_list, strB_list, (loopW_pre l).1] at hcp
  obtain ⟨lp, hlp⟩ : ∃ x, loopB l = x := ⟨_, rfl⟩
  rw [hlp]
  unfold loopB at hlp
  by_cases hp : loopW.isPrefixOf l = true
  · rw [if_pos hp] at hlp
    rw [hp, (loopW_pre l).2 hp] at hcp
    have HCP : Hid (Calls Tryd.prog 58 #[.string (strB l), .string ⟨#[99, 32, 108, 111, 111, 112, 32]⟩] w fun e w' => e = .returned (.tuple #[.string (strB (l.drop 7)), .bool true]) ∧ w' = w) := Lib.hid hcp
    have HNU := Lib.hid (numberOf_any w B (l.drop 7) (by simp; omega) lib hB)
    rw [hlp] at HNU
    clear hcp hp lib
    generalize strB l = sl at HCP ⊢
    generalize strB (l.drop 7) = sd at HCP HNU
    go_enter Tryd.func51, Tryd.ntmps51
    go_wp2_with (first
      | (go_at_call 58; refine HCP.out.mono ?_; rintro e w1 ⟨rfl, hw⟩; rw [hw]; clear hw)
      | (go_at_call 46; refine HNU.out.mono ?_; rintro e w2 ⟨hb, v, rfl, hv⟩; have HB := Lib.hid hb; have HV := Lib.hid hv; clear hb hv))
    go_ret2
    exact ⟨HB.out, _, rfl, HV.out⟩
  · rw [if_neg hp] at hlp
    rw [Bool.eq_false_iff.2 hp] at hcp
    subst hlp
    obtain ⟨d, hd⟩ : ∃ d, Lib.trimPrefix l loopW = d := ⟨_, rfl⟩
    have hdl : d.length ≤ 262144 := by
      rw [← hd]
      unfold Lib.trimPrefix
      split
      · simp; omega
      · exact hl
    rw [hd] at hcp
    have HCP : Hid (Calls Tryd.prog 58 #[.string (strB l), .string ⟨#[99, 32, 108, 111, 111, 112, 32]⟩] w fun e w' => e = .returned (.tuple #[.string (strB d), .bool false]) ∧ w' = w) := Lib.hid hcp
    have HNU := Lib.hid (numberOf_any w B d hdl lib hB)
    clear hcp hp lib hd hdl
    generalize strB l = sl at HCP ⊢
    generalize strB d = sd at HCP HNU
    generalize (numB d).isSome = nb at HNU
    go_enter Tryd.func51, Tryd.ntmps51
    go_wp2_with (first
      | (go_at_call 58; refine HCP.out.mono ?_; rintro e w1 ⟨rfl, hw⟩; rw [hw]; clear hw)
      | (go_at_call 46; refine HNU.out.mono ?_; rintro e w2 ⟨hb, v, rfl, hv⟩; have HB := Lib.hid hb; clear hb hv))
    go_ret2
    exact ⟨HB.out, _, rfl, fun n hn => by cases hn⟩
set_option maxHeartbeats 2000000 in
theorem propOf_any (w : World) (B : Nat) (l : Bs) (hl : l.length ≤ 262144) (lib : LibB B w) (hB : B ≤ w.heap.size) : Calls Tryd.prog 49 #[.string (strB l)] w fun e w' => Below w.heap.size w w' ∧ ∃ p : Int × Int, e = .returned (.tuple #[.agg #[.int .u8 p.1, .int .i64 p.2], .bool (propB l).isSome]) ∧ ∀ q, propB l = some q → p = q := by
  have hb0 : Below w.heap.size w (w.alloc (.cells #[.int .u8 0, .int .i64 0] 57)) := (Below.refl _ _).alloc (Nat.le_refl _) _
  have HB0 := Lib.hid hb0
  have HN0 := Lib.hid (Blk.new w 57 #[.int .u8 0, .int .i64 0])
  cases l with
  | nil =>
    have hq : (strB []).toList.isEmpty = true := by rw [strB_toList]; rfl
    generalize strB [] = sl at hq ⊢
    clear lib hb0
    go_enter Tryd.func49, Tryd.ntmps49
    go_wp2_with (refine wpList_store_row rfl 57 (.tmp 2) (.tmp 8) rfl w.heap.size #[.int .u8 0, .int .i64 0] rfl rfl 57 _ HN0.out (by kernel_rfl) rfl (by simp [Value.oneCell']) ?_)
    refine bodyPost_ret (results_cellS (fn := Tryd.f49) (p := 2) (q := 3) rfl _ _ w.heap.size 57 #[.int .u8 0, .int .i64 0] (0, 0) _ rfl (setRow_heap _ _ _ #[.int .u8 0, .int .i64 0] _ _ HN0.out) Tryd.underlying57 rfl (by kernel_rfl) (.bool false) rfl) rfl ?_
    exact ⟨below_setRow HB0.out (Nat.le_refl _), (0, 0), rfl, fun q hq => by cases hq⟩
  | cons c r =>
    have hq : (strB (c :: r)).toList.isEmpty = false := by rw [strB_toList]; rfl
    have hsz : (strB (c :: r)).size = r.length + 1 := by rw [strB_size]; rfl
    have hdr := strB_drop (c :: r) 1
    simp only [List.drop_succ_cons, List.drop_zero] at hdr
    rw [hsz] at hdr
    have HNU := Lib.hid (numberOf_any (w.alloc (.cells #[.int .u8 0, .int .i64 0] 57)) B r (by simp at hl; omega) (lib.up hB hb0) (Nat.le_trans hB hb0.size))
    have hpb : propB (c :: r) = (numB r).map fun (n : Nat) => ((c.toNat : Int), (n : Int)) := rfl
    rw [hpb, show ((numB r).map fun (n : Nat) => ((c.toNat : Int), (n : Int))).isSome = (numB r).isSome by simp]
    have h1 : (0 : Int) < (r.length : Int) + 1 := by omega
    have h2 : (1 : Int) ≤ (r.length : Int) + 1 := by omega
    have hs0 : 0 < (strB (c :: r)).size := by rw [hsz]; omega
    have HX : Hid ((strB (c :: r))[0]'hs0 = c) := Lib.hid rfl
    clear lib hb0 hpb hl
    go_enter Tryd.func49, Tryd.ntmps49
    go_upto_region 4 with (go_at_call 46; go_loud (refine HNU.out.mono ?_; rintro e w1 ⟨hb, v, rfl, hv⟩; have HB := Lib.hid hb; have HV := Lib.hid hv; clear hb hv))
    have HN1 := Lib.hid (Blk.below HN0.out HB.out (by simp))
    go_wp2_with (refine wpList_store_row rfl 57 (.tmp 2) (.tmp 18) rfl w.heap.size #[.int .u8 (((strB (c :: r))[0]'hs0).toNat : Int), .int .i64 v] rfl rfl 57 _ HN1.out (by kernel_rfl) rfl (by simp [Value.oneCell']) ?_)
    have hg := setRow_heap _ _ _ #[.int .u8 (((strB (c :: r))[0]'hs0).toNat : Int), .int .i64 v] _ _ HN1.out
    refine bodyPost_ret (results_cellS (fn := Tryd.f49) (p := 2) (q := 3) rfl _ _ w.heap.size 57 #[.int .u8 (((strB (c :: r))[0]'hs0).toNat : Int), .int .i64 v] (0, 0) _ rfl hg Tryd.underlying57 rfl (by kernel_rfl) (.bool (numB r).isSome) rfl) rfl ?_
    rw [HX.out]
    refine ⟨below_setRow (bt HB0.out (Nat.le_refl _) HB.out) (Nat.le_refl _), ((c.toNat : Int), v), rfl, fun q hq => ?_⟩
    obtain ⟨n, hn, rfl⟩ := Option.map_eq_some_iff.1 hq
    rw [HV.out n hn]
end Go.Proofs.YtjbglgmbnjdhcaaDoor

namespace Go.Proofs.YtjbglgmbnjdhcaaDoor
open Go.RowKit Go.Maps

theorem keyLawP : Keyed Tryd.prog 57 := Keyed.of_law (deep_law_laid laidOut (m := 3) (by omega) (of_decide_eq_true (by kernel_rfl)) (by kernel_rfl) (by kernel_rfl))
theorem keyLits_prop (a b : Int) (ha : (Lit.int .u8 a).wf = true) (hb : (Lit.int .i64 b).wf = true) (d : Nat) : Tryd.prog.keyLits (d + 2) 57 [.int .u8 a, .int .i64 b] = some [.int .u8 a, .int .i64 b] := by
  have hc : Tryd.prog.cellsOf 57 = 2 := by kernel_rfl
  have hc5 : Tryd.prog.cellsOf 5 = 1 := by kernel_rfl
  have hc3 : Tryd.prog.cellsOf 3 = 1 := by kernel_rfl
  simp [Program.keyLits, Tryd.underlying57, Tryd.underlying5, Tryd.underlying3, hc, hc5, hc3, ha, hb]
theorem keyP_some (a b : Int) (ha : 0 ≤ a ∧ a ≤ 255) (hb : I64 b) : ∃ kl, keyOf Tryd.prog 57 (.agg #[.int .u8 a, .int .i64 b]) = some kl := by
  have h1 : (Lit.int .u8 a).wf = true := by simp [Lit.wf, IntKind.min, IntKind.max, IntKind.signed, IntKind.bits]; omega
  have h2 : (Lit.int .i64 b).wf = true := by unfold I64 at hb; simp [Lit.wf, IntKind.min, IntKind.max, IntKind.signed, IntKind.bits]; omega
  have hk : Tryd.prog.keyType 57 = true := by kernel_rfl
  have hf : (Value.agg #[.int .u8 a, .int .i64 b]).formed Tryd.prog 57 = true := by
    have hc : Tryd.prog.cellsOf 57 = 2 := by kernel_rfl
    simp [Value.formed, Tryd.underlying57, hc]
  have hs : ∃ d, Tryd.prog.types.size + 1 = d + 2 := ⟨Tryd.prog.types.size - 1, by have : 1 ≤ Tryd.prog.types.size := of_decide_eq_true (by kernel_rfl); omega⟩
  obtain ⟨d, hd⟩ := hs
  have hl := keyLits_prop a b h1 h2 d
  unfold keyOf
  rw [hd]
  simp only [Tryd.underlying57, hk, hf, Bool.and_self, if_true]
  refine ⟨.string (keyBytes [.int .u8 a, .int .i64 b]), ?_⟩
  show Option.map _ (Tryd.prog.keyLits (d + 2) 57 [.int .u8 a, .int .i64 b]) = _
  rw [hl]; rfl
/-- The set D holds just the properties that are listed. -/
def SeenP (D : DataW Unit) (ps : List (Int × Int)) : Prop := IsMap D ∧ ∀ (a b : Int) (kl : Lit), keyOf Tryd.prog 57 (.agg #[.int .u8 a, .int .i64 b]) = some kl → Maps.has D kl = ps.contains (a, b)
theorem keyP_inj {a b a' b' : Int} {kl : Lit} (h : keyOf Tryd.prog 57 (.agg #[.int .u8 a, .int .i64 b]) = some kl) (h' : keyOf Tryd.prog 57 (.agg #[.int .u8 a', .int .i64 b']) = some kl) : a = a' ∧ b = b' := by
  have := keyLawP.inj h h'
  simpa using this
theorem SeenP.put {D : DataW Unit} {ps : List (Int × Int)} (h : SeenP D ps) {a b : Int} {kl : Lit} (hk : keyOf Tryd.prog 57 (.agg #[.int .u8 a, .int .i64 b]) = some kl) (d : DataW Unit) : SeenP (D.put kl d) ((a, b) :: ps) := by
  refine ⟨h.1.put _ _, fun a' b' kl' hk' => ?_⟩
  by_cases e : kl' = kl
  · subst e
    obtain ⟨rfl, rfl⟩ := keyP_inj hk hk'
    rw [has_put_same h.1 (keyLawP.key hk)]
    simp
  · rw [has_put_other e, h.2 a' b' kl' hk']
    have hne : (a', b') ≠ (a, b) := by
      intro e2
      cases e2
      rw [hk] at hk'
      injection hk' with hk'
      exact e hk'.symm
    have : ((a', b') == (a, b)) = false := by simpa using hne
    rw [List.contains_cons, this, Bool.false_or]
/-- May all of these be, behind those that are listed? -/
def preB : List (Int × Int) → List (Int × Int) → Bool
  | [], _ => true
  | p :: r, seen => if seen.contains p = true ∨ ¬ okP p then false else preB r (p :: seen)
theorem preB_iff : ∀ (l seen : List (Int × Int)), preB l seen = true ↔ (∀ p ∈ l, okP p) ∧ l.Nodup ∧ ∀ p ∈ l, p ∉ seen
  | [], seen => by simp [preB]
  | p :: r, seen => by
    unfold preB
    by_cases h : seen.contains p = true ∨ ¬ okP p
    · rw [if_pos h]
      constructor
      · intro h2; cases h2
      · rintro ⟨h1, _, h3⟩
        rcases h with h | h
        · exact absurd (by simpa using h) (h3 p (by simp))
        · exact absurd (h1 p (by simp)) h
    · rw [if_neg h, preB_iff r (p :: seen)]
      simp only [not_or] at h
      constructor
      · rintro ⟨h1, h2, h3⟩
        refine ⟨fun q hq => ?_, ?_, fun q hq => ?_⟩
        · rcases List.mem_cons.1 hq with rfl | hq
          · exact Decidable.not_not.1 h.2
          · exact h1 q hq
        · rw [List.nodup_cons]
          exact ⟨fun hp => h3 p hp (by simp), h2⟩
        · rcases List.mem_cons.1 hq with rfl | hq
          · intro hs; exact h.1 (by simpa using hs)
          · intro hs; exact h3 q hq (by simp [hs])
      · rintro ⟨h1, h2, h3⟩
        rw [List.nodup_cons] at h2
        refine ⟨fun q hq => h1 q (by simp [hq]), h2.2, fun q hq hs => ?_⟩
        rcases List.mem_cons.1 hs with rfl | hs
        · exact h2.1 hq
        · exact h3 q (by simp [hq]) hs
theorem okPs_pre (l : List (Int × Int)) : okPs l = (decide (l ≠ []) && preB l []) := by
  unfold okPs
  by_cases h : preB l [] = true
  · have h2 := (preB_iff l []).1 h
    rw [h, Bool.and_true]
    by_cases h3 : l ≠ []
    · rw [decide_eq_true h3, decide_eq_true ⟨h3, h2.1, h2.2.1⟩]
    · rw [decide_eq_false h3, decide_eq_false (fun hc => h3 hc.1)]
  · rw [Bool.eq_false_iff.2 h, Bool.and_false]
    exact decide_eq_false (fun hc => h ((preB_iff l []).2 ⟨hc.2.1, hc.2.2, fun p _ => by simp⟩))
theorem preB_step {xs : List (Int × Int)} {k : Nat} {x : Int × Int} {ps : List (Int × Int)} (h : xs[k]? = some x) (h1 : ps.contains x = false) (h2 : okP x) : preB (xs.drop k) ps = preB (xs.drop (k + 1)) (x :: ps) := by
  rw [drop_one h, preB, if_neg (by rw [h1]; simp [h2])]
theorem preB_stop {xs : List (Int × Int)} {k : Nat} {x : Int × Int} {ps : List (Int × Int)} (h : xs[k]? = some x) (h1 : ps.contains x = true ∨ ¬ okP x) : preB (xs.drop k) ps = false := by
  rw [drop_one h, preB, if_pos h1]
set_option maxHeartbeats 2000000 in
theorem isProp_any (w : World) (a b : Int) : Calls Tryd.prog 34 #[.agg #[.int .u8 a, .int .i64 b]] w fun e w' => e = .returned (.bool (decide (okP (a, b)))) ∧ Below w.heap.size w w' := by
  by_cases h1 : a = 98
  · skip
    subst h1
    have HB := Lib.hid ((Below.refl w.heap.size w).alloc (Nat.le_refl _) (.cells #[.int .u8 98, .int .i64 b] 57))
    by_cases h2 : 0 ≤ b
    · by_cases h3 : b < 16384
      · skip
        have HE : Hid (decide (okP (98, b)) = true) := Lib.hid (decide_eq_true (⟨Or.inl rfl, h2, h3⟩))
        rw [HE.out]
        go_enter Tryd.func34, Tryd.ntmps34
        go_wp2
        go_ret
        exact ⟨rfl, HB.out⟩
      · skip
        have HE : Hid (decide (okP (98, b)) = false) := Lib.hid (decide_eq_false (fun hc => h3 hc.2.2))
        rw [HE.out]
        go_enter Tryd.func34, Tryd.ntmps34
        go_wp2
        go_ret
        exact ⟨rfl, HB.out⟩
    · skip
      have HE : Hid (decide (okP (98, b)) = false) := Lib.hid (decide_eq_false (fun hc => h2 hc.2.1))
      rw [HE.out]
      go_enter Tryd.func34, Tryd.ntmps34
      go_wp2
      go_ret
      exact ⟨rfl, HB.out⟩
  · by_cases h5 : a = 106
    · skip
      subst h5
      have HB := Lib.hid ((Below.refl w.heap.size w).alloc (Nat.le_refl _) (.cells #[.int .u8 106, .int .i64 b] 57))
      by_cases h2 : 0 ≤ b
      · by_cases h3 : b < 16384
        · skip
          have HE : Hid (decide (okP (106, b)) = true) := Lib.hid (decide_eq_true (⟨Or.inr rfl, h2, h3⟩))
          rw [HE.out]
          go_enter Tryd.func34, Tryd.ntmps34
          go_wp2
          go_ret
          exact ⟨rfl, HB.out⟩
        · skip
          have HE : Hid (decide (okP (106, b)) = false) := Lib.hid (decide_eq_false (fun hc => h3 hc.2.2))
          rw [HE.out]
          go_enter Tryd.func34, Tryd.ntmps34
          go_wp2
          go_ret
          exact ⟨rfl, HB.out⟩
      · skip
        have HE : Hid (decide (okP (106, b)) = false) := Lib.hid (decide_eq_false (fun hc => h2 hc.2.1))
        rw [HE.out]
        go_enter Tryd.func34, Tryd.ntmps34
        go_wp2
        go_ret
        exact ⟨rfl, HB.out⟩
    · have HB := Lib.hid ((Below.refl w.heap.size w).alloc (Nat.le_refl _) (.cells #[.int .u8 a, .int .i64 b] 57))
      have HE : Hid (decide (okP (a, b)) = false) := Lib.hid (decide_eq_false (fun hc => hc.1.elim h1 h5))
      rw [HE.out]
      go_enter Tryd.func34, Tryd.ntmps34
      go_wp2
      go_ret
      exact ⟨rfl, HB.out⟩
theorem own_map_below {H : Type} {w w' : World} {P : Program} {k : TypeId} {R : Value → Option (DataW H × List MemPlace)} {b n : Nat} {D : DataW H} (h : w.ownsMap P k R b n D) (hb : Below w.heap.size w w') : w'.ownsMap P k R b n D :=
  h.kept (row := none) ⟨hb.os, hb.tape, hb.output, hb.size, fun k hk _ => hb.block k hk⟩ (by simp)
theorem zeroUnitP (w : World) : (zeroValue 70).run Tryd.prog w = .ok (.agg #[]) w := by kernel_rfl
theorem build_unit (w : World) : (Instr.build 70 #[]).run Tryd.prog w = .ok (.agg #[]) w := by kernel_rfl
set_option maxHeartbeats 4000000 in
set_option maxRecDepth 100000 in
theorem areProps_any (w : World) (v : Value) (ps : List (Int × Int)) (h : RowE 2 encPp w v ps) (hw : ∀ p ∈ ps, (0 ≤ p.1 ∧ p.1 ≤ 255) ∧ I64 p.2) :
    Calls Tryd.prog 18 #[v] w fun e w' => e = .returned (.bool (okPs ps)) ∧ Below w.heap.size w w' := by
  have hmm := @run_makeMap Tryd.prog
  have hm : ps.length ≤ 9223372036854775807 := by have := h.len; unfold maxLen at this; omega
  obtain ⟨A, c, eS, hcp, _, hrun⟩ := h
  have HRUN := Lib.hid hrun
  have HWF := Lib.hid hw
  subst eS
  rw [okPs_pre]
  obtain ⟨pb, hpb⟩ : ∃ b, preB ps [] = b := ⟨_, rfl⟩
  rw [hpb]
  have HPB := Lib.hid hpb
  obtain ⟨n, hn⟩ : ∃ n, ps.length = n := ⟨_, rfl⟩
  have HNE : Hid (decide (ps ≠ []) = decide (0 < n)) := Lib.hid (by rw [← hn]; cases ps <;> simp)
  rw [HNE.out]
  rw [hn] at hcp hm ⊢
  have HN := Lib.hid hn
  clear hrun hw hpb hn
  go_enter Tryd.func18, Tryd.ntmps18
  go_wp2
  go_loopg [11] n (fun j iv wr => ∃ (k : Nat) (D : DataW Unit) (qs : List (Int × Int)), k ≤ n ∧ j = n - k ∧ iv = .int .i64 k ∧ wr.ownsMap Tryd.prog 57 unitElem w.heap.size k D ∧ SeenP D qs ∧ preB ps [] = preB (ps.drop k) qs ∧ Below w.heap.size w wr)
  case atStart =>
    refine ⟨0, .map [], [], Nat.zero_le _, rfl, rfl, ?_, ⟨isMap_empty, fun a b kl _ => rfl⟩, rfl, (Below.refl _ _).alloc (Nat.le_refl _) _⟩
    exact World.ownsMap_made (P := Tryd.prog) (k := 57) (R := unitElem (H := Unit)) w
  case round =>
    obtain ⟨k, D, qs, hk, hgk, rfl, hown, hseen, hall, hbw⟩ := hrel
    subst hgk
    have HOWN := Lib.hid hown
    have HALL := Lib.hid hall
    have HBW := Lib.hid hbw
    have HSEEN := Lib.hid hseen
    by_cases hlt : k < n
    · obtain ⟨x, hx⟩ : ∃ x, ps[k]? = some x := ⟨_, List.getElem?_eq_getElem (by rw [HN.out]; exact hlt)⟩
      obtain ⟨b, off, e, hb, hcell⟩ := HRUN.out k x hx
      subst e
      have HX := Lib.hid hx
      have hxo := HWF.out x (List.mem_of_getElem? hx)
      obtain ⟨kd, at_⟩ := x
      have h0 := (hbw.cell (p := ⟨b, off + (k * 2 + 0), none⟩) hb).trans (hcell 0 _ rfl)
      have h1 := (hbw.cell (p := ⟨b, off + (k * 2 + 1), none⟩) hb).trans (hcell 1 _ rfl)
      simp only [Nat.add_zero, ← Nat.add_assoc] at h0 h1
      simp only at hxo
      obtain ⟨kl, hkey⟩ := keyP_some kd at_ hxo.1 hxo.2
      have hhas := hseen.2 kd at_ kl hkey
      have HKEY := Lib.hid hkey
      have hbsz := hbw.size
      have hk0 : (0 : Int) ≤ (k : Int) := by omega
      have hk1 : (k : Int) < (n : Int) := by omega
      have HC2 : Hid (∀ wz, Below ((wr.alloc (.cells #[.int .u8 kd, .int .i64 at_] 57)).alloc (.cells #[] 70)).heap.size ((wr.alloc (.cells #[.int .u8 kd, .int .i64 at_] 57)).alloc (.cells #[] 70)) wz → (wz.cell? ⟨wr.heap.size, 0, none⟩ = some (.int .u8 kd) ∧ wz.cell? ⟨wr.heap.size, 1, none⟩ = some (.int .i64 at_)) ∧ wz.ownsMap Tryd.prog 57 unitElem w.heap.size k D ∧ Below w.heap.size w wz) := Lib.hid (fun wz hz => by
        have h5 : Blk ((wr.alloc (.cells #[.int .u8 kd, .int .i64 at_] 57)).alloc (.cells #[] 70)) wr.heap.size 57 #[.int .u8 kd, .int .i64 at_] := (Blk.new wr _ _).alloc _
        have h6 := h5.below hz h5.lt
        exact ⟨⟨h6.cell 0, h6.cell 1⟩, own_map_below ((HOWN.out.alloc _).alloc _) hz, bt ((HBW.out.alloc hbsz _).alloc (by simp; omega) _) (by simp) hz⟩)
      clear hx hcell hseen hkey hown hall hbw hxo
      have HBX := Lib.hid (HC2.out ((wr.alloc (.cells #[.int .u8 kd, .int .i64 at_] 57)).alloc (.cells #[] 70)) (Below.refl _ _)).2.2
      cases hs : qs.contains (kd, at_)
      · rw [hs] at hhas
        have HIP := Lib.hid (fun (wx : World) => isProp_any wx kd at_)
        by_cases hok : okP (kd, at_)
        · have HST := Lib.hid (HALL.out.trans (preB_step HX.out hs hok))
          have HS4 := Lib.hid (HSEEN.out.put HKEY.out (.agg []))
          rw [decide_eq_true hok] at HIP
          clear hs hok
          go_wp2_with (first | (at_lookup; refine wpList_lookup_own_unit _ rfl _ _ 69 rfl 57 70 keyLawP Tryd.underlying69 (zeroUnitP _) w.heap.size k _ rfl (HOWN.out.alloc _) _ _ rfl HKEY.out ?_) | (go_at_call 34; refine (HIP.out ((wr.alloc (.cells #[.int .u8 kd, .int .i64 at_] 57)).alloc (.cells #[] 70))).mono ?_; rintro e w4 ⟨rfl, hb⟩; have HB4 := Lib.hid hb; clear hb; obtain ⟨c0, c1⟩ := (HC2.out w4 HB4.out).1; have hbld := build_unit w4) | (at_mapUpdate; refine wpList_mapUpdate_own _ rfl _ _ _ 69 rfl 57 70 keyLawP Tryd.underlying69 (unitElem (H := Unit)) w.heap.size k _ rfl (HC2.out w4 HB4.out).2.1 (by unfold maxLen; omega) _ _ _ rfl rfl HKEY.out _ [] unitElem_mk ?_; intro w5 hown5 hgrow5))
          have hb5 := ((HC2.out w4 HB4.out).2.2).grown hgrow5 ((HC2.out w4 HB4.out).2.2).size (fun j hj => by cases hj; omega)
          go_roundg (n - (k + 1))
          case measure => omega
          case rel => first
            | exact ⟨k + 1, _, _, by omega, rfl, by go_num, hown5, HS4.out, HST.out, hb5⟩
            | ((repeat apply Exists.intro); exact ⟨⟨k + 1, _, _, by omega, rfl, by go_num, hown5, HS4.out, HST.out, hb5⟩, rfl⟩)
        · have HST := Lib.hid (HPB.out.symm.trans (HALL.out.trans (preB_stop (ps := qs) HX.out (.inr hok))))
          rw [decide_eq_false hok] at HIP
          clear hs hok
          go_wp2_with (first | (at_lookup; refine wpList_lookup_own_unit _ rfl _ _ 69 rfl 57 70 keyLawP Tryd.underlying69 (zeroUnitP _) w.heap.size k _ rfl (HOWN.out.alloc _) _ _ rfl HKEY.out ?_) | (go_at_call 34; refine (HIP.out ((wr.alloc (.cells #[.int .u8 kd, .int .i64 at_] 57)).alloc (.cells #[] 70))).mono ?_; rintro e w4 ⟨rfl, hb⟩; have HB4 := Lib.hid hb; clear hb; obtain ⟨c0, c1⟩ := (HC2.out w4 HB4.out).1; have hbld := build_unit w4))
          go_ret
          exact ⟨by simp [HST.out], (HC2.out w4 HB4.out).2.2⟩
      · rw [hs] at hhas
        have HST := Lib.hid (HPB.out.symm.trans (HALL.out.trans (preB_stop (ps := qs) HX.out (.inl hs))))
        clear hs
        go_wp2_with (first | (at_lookup; refine wpList_lookup_own_unit _ rfl _ _ 69 rfl 57 70 keyLawP Tryd.underlying69 (zeroUnitP _) w.heap.size k _ rfl (HOWN.out.alloc _) _ _ rfl HKEY.out ?_))
        go_ret
        exact ⟨by simp [HST.out], HBX.out⟩
    · have hk1 : ¬ (k : Int) < (n : Int) := by omega
      have HST : Hid (pb = true) := Lib.hid (by rw [← HPB.out, HALL.out, drop_all (by rw [HN.out]; omega)]; rfl)
      have hz : decide ((0 : Int) < (n : Int)) = decide (0 < n) := decide_eq_decide.2 (by omega)
      by_cases h0 : (0 : Int) < (n : Int)
      · go_wp2
        go_ret
        exact ⟨by simp [HST.out], HBW.out⟩
      · go_wp2
        go_ret
        exact ⟨by simp [HST.out], HBW.out⟩
end Go.Proofs.YtjbglgmbnjdhcaaDoor

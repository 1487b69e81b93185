/- The program's calls on clauses up to resolution: Normal; whether a normal clause has a literal; a clause without a literal; the normal forms of two clauses; Resolve. -/
import Derived.Test.YtcppmjgglcobcaaNorm
namespace Go.Proofs.Ytcppmjgglcobcaa
open Go.RowKit Go.Shelf Go.Lib Go.Sort

theorem wrongE_zero {zs : List Int} (h : wrongE zs = 0) : zs.length ≤ 16384 ∧ zs.all isF = true := by
  unfold wrongE at h
  by_cases h1 : 16384 < zs.length
  · rw [if_pos h1] at h; cases h
  · rw [if_neg h1] at h
    by_cases h2 : zs.all isF = true
    · exact ⟨by omega, h2⟩
    · rw [if_neg h2] at h; cases h

/-- A slice value of the call's own that is not nil and owns the numbers ns. -/
def Owns (B : Nat) (w : World) (v : Value) (ns : List Int) : Prop :=
  ∃ g cap, v = .slice (some ⟨g, 0, none⟩) ns.length cap ∧ w.ownsRow B 3 1 v ns.length (ints ns)

theorem Owns.reads {B : Nat} {w : World} {v : Value} {ns : List Int} (h : Owns B w v ns) : Ints w v ns := by
  obtain ⟨g, cap, rfl, h⟩ := h; exact own_ints h
theorem own_below {w w' : World} {B n : Nat} {v : Value} {xs : List Value} (h : w.ownsRow B 3 1 v n xs) (hb : Below w.heap.size w w') : w'.ownsRow B 3 1 v n xs := by
  refine ⟨h.1, ?_⟩
  rcases h.2 with h | ⟨g, cap, cur, hv, hB, hg, r⟩
  · exact .inl h
  · exact .inr ⟨g, cap, cur, hv, hB, (hb.block g (Array.getElem?_eq_some_iff.1 hg).1).trans hg, r⟩
theorem own_mono {w : World} {B B' n : Nat} {v : Value} {xs : List Value} (h : w.ownsRow B 3 1 v n xs) (hB : B' ≤ B) : w.ownsRow B' 3 1 v n xs := by
  refine ⟨h.1, ?_⟩
  rcases h.2 with h | ⟨g, cap, cur, hv, hg, r⟩
  · exact .inl h
  · exact .inr ⟨g, cap, cur, hv, by omega, r⟩
theorem Owns.below {B : Nat} {w w' : World} {v : Value} {ns : List Int} (h : Owns B w v ns) (hb : Below w.heap.size w w') : Owns B w' v ns := by
  obtain ⟨g, cap, rfl, h⟩ := h; exact ⟨g, cap, rfl, own_below h hb⟩
theorem Owns.mono {B B' : Nat} {w : World} {v : Value} {ns : List Int} (h : Owns B w v ns) (hB : B' ≤ B) : Owns B' w v ns := by
  obtain ⟨g, cap, rfl, h⟩ := h; exact ⟨g, cap, rfl, own_mono h hB⟩
theorem Owns.own {B : Nat} {w : World} {v : Value} {ns : List Int} (h : Owns B w v ns) : w.ownsRow B 3 1 v ns.length (ints ns) := by
  obtain ⟨g, cap, _, h⟩ := h; exact h

theorem normal_taut (w : World) (v : Value) (zs : List Int) (h : Ints w v zs) (hE : wrongE zs = 0) (ht : taut zs = true) :
    Calls Try.prog 44 #[v] w fun e w' => e = .returned (.tuple #[.slice none 0 0, .bool false]) ∧ Below w.heap.size w w' := by
  refine (normal_any w v zs h (wrongE_zero hE).1 (wrongE_zero hE).2).mono ?_
  rintro e w' ⟨hb, (⟨_, rfl⟩ | ⟨h', _⟩)⟩
  · exact ⟨rfl, hb⟩
  · rw [ht] at h'; cases h'

theorem normal_nf (w : World) (v : Value) (zs : List Int) (h : Ints w v zs) (hE : wrongE zs = 0) (ht : taut zs = false) :
    Calls Try.prog 44 #[v] w fun e w' => ∃ ns v', e = .returned (.tuple #[v', .bool true]) ∧ Below w.heap.size w w' ∧ NF zs ns ∧ Owns w.heap.size w' v' ns := by
  refine (normal_any w v zs h (wrongE_zero hE).1 (wrongE_zero hE).2).mono ?_
  rintro e w' ⟨hb, (⟨h', _⟩ | ⟨_, ns, g, cap, rfl, hnf, hown⟩)⟩
  · rw [ht] at h'; cases h'
  · exact ⟨ns, _, rfl, hb, hnf, g, cap, rfl, hown⟩

/-- What Normal, and the document's, answer of a clause. -/
def NrmPost (w : World) (zs : List Int) (e : Ending) (w' : World) : Prop :=
  Below w.heap.size w w' ∧
  ((wrongE zs ≠ 0 ∧ e = .returned (.tuple #[.slice none 0 0, .int .i64 (wrongE zs)])) ∨
   (wrongE zs = 0 ∧ taut zs = true ∧ e = .returned (.tuple #[.slice none 0 0, .int .i64 10])) ∨
   (wrongE zs = 0 ∧ taut zs = false ∧ ∃ ns v, e = .returned (.tuple #[v, .int .i64 0]) ∧ NF zs ns ∧ Owns w.heap.size w' v ns))

set_option maxHeartbeats 400000 in
theorem Normal_any (w : World) (v : Value) (zs : List Int) (h : Ints w v zs) : Calls Try.prog 18 #[v] w (NrmPost w zs) := by
  have hc := check_any w v zs h
  by_cases hE : wrongE zs = 0
  · rw [hE] at hc
    have HE := Lib.hid hE
    cases ht : taut zs
    · have hn := normal_nf w v zs h hE ht
      have HT := Lib.hid ht
      clear ht hE h
      go_enter Try.func18, Try.ntmps18
      go_wp2_with (first
        | (go_at_call 43; refine hc.mono ?_; rintro e w' ⟨rfl, rfl⟩)
        | (go_at_call 44; refine hn.mono ?_; rintro e w1 ⟨ns, v', rfl, hb1, hnf, hown⟩))
      go_ret2
      exact ⟨hb1, .inr (.inr ⟨HE.out, HT.out, ns, _, rfl, hnf, hown⟩)⟩
    · have hn := normal_taut w v zs h hE ht
      have HT := Lib.hid ht
      clear ht hE h
      go_enter Try.func18, Try.ntmps18
      go_wp2_with (first
        | (go_at_call 43; refine hc.mono ?_; rintro e w' ⟨rfl, rfl⟩)
        | (go_at_call 44; refine hn.mono ?_; rintro e w1 ⟨rfl, hb1⟩))
      go_ret2
      exact ⟨hb1, .inr (.inl ⟨HE.out, HT.out, rfl⟩)⟩
  · have HE := Lib.hid hE
    have hb1 : (wrongE zs != 0) = true := by simpa using hE
    have hb2 : (wrongE zs == 0) = false := by simpa using hE
    generalize hx : wrongE zs = x at hc hb1 hb2
    have HX := Lib.hid hx
    clear h hE hx
    go_enter Try.func18, Try.ntmps18
    go_wp2_with (go_at_call 43; refine hc.mono ?_; rintro e w' ⟨rfl, rfl⟩)
    go_ret2
    exact ⟨Below.refl _ _, .inl ⟨HE.out, by rw [HX.out]; rfl⟩⟩

/-- A normal clause: its variables rise, its literals are a formula's. -/
def NCl (ns : List Int) : Prop := ns.Pairwise (fun a b => absI a < absI b) ∧ ns.all isF = true
theorem NF.ncl {zs ns : List Int} (h : NF zs ns) (hF : zs.all isF = true) : NCl ns :=
  ⟨h.1, List.all_eq_true.2 fun x hx => List.all_eq_true.1 hF x ((h.2 x).1 hx)⟩
theorem rising_length : ∀ {ns zs : List Int}, ns.Pairwise (fun a b => absI a < absI b) → (∀ x ∈ ns, x ∈ zs) → ns.length ≤ zs.length := by
  intro ns
  induction ns with
  | nil => intro zs _ _; simp
  | cons x ns ih =>
    intro zs hp hm
    have hp := List.pairwise_cons.1 hp
    have hx := hm x (by simp)
    have h1 := ih (zs := zs.erase x) hp.2 (fun y hy => by
      rw [List.mem_erase_of_ne (by rintro rfl; have := hp.1 y hy; omega)]
      exact hm y (List.mem_cons_of_mem _ hy))
    have h2 := List.length_erase_of_mem hx
    have h3 := List.length_pos_of_mem hx
    rw [List.length_cons]; omega
theorem NF.length_le {zs ns : List Int} (h : NF zs ns) : ns.length ≤ zs.length := rising_length h.1 fun x hx => (h.2 x).1 hx

theorem absW_F {x : Int} (h : isF x = true) : absW x = absI x := absW_eq (isF_yes h).2.1 (isF_yes h).2.2

theorem ncl_cmp {ns : List Int} (h : NCl ns) {i j : Nat} (hij : i < j) (hj : j < ns.length) : cmpV (ns.getD i 0) (ns.getD j 0) < 0 := by
  have hp := List.pairwise_iff_getElem.1 h.1 i j (by omega) hj hij
  have f1 := List.all_eq_true.1 h.2 _ (List.getElem_mem (show i < ns.length by omega))
  have f2 := List.all_eq_true.1 h.2 _ (List.getElem_mem hj)
  simp only [List.getD, List.getElem?_eq_getElem hj, List.getElem?_eq_getElem (show i < ns.length by omega), Option.getD_some]
  rw [cmpV_neg, absW_F f1, absW_F f2]
  exact .inl hp

theorem getElem!_toArray (ns : List Int) (i : Nat) (h : i < ns.length) : ns.toArray[i]! = ns.getD i 0 := by
  simp [List.getD, h]

theorem cmpV_trans {a b c : Int} (h1 : cmpV a b < 0) (h2 : cmpV b c < 0) : cmpV a c < 0 := by
  rw [cmpV_neg] at *; omega

theorem search_ok {ns : List Int} (h : NCl ns) (t : Int) :
    (decide (ns.toArray.toList.countP (fun x => decide (cmpV x t < 0)) < ns.toArray.size) && decide (cmpV ns.toArray[ns.toArray.toList.countP (fun x => decide (cmpV x t < 0))]! t = 0)) = decide (t ∈ ns) := by
  rw [show ns.toArray.toList = ns from rfl, List.size_toArray]
  by_cases ht : t ∈ ns
  · obtain ⟨j, hj, e⟩ := List.getElem_of_mem ht
    have hg : ns.getD j 0 = t := by simp [List.getD, hj, e]
    have hc : ns.countP (fun x => decide (cmpV x t < 0)) = j := by
      refine countP_boundary _ ns j (by omega) (fun i hi => ?_) (fun i hi hil => ?_)
      · have := ncl_cmp h hi hj
        rw [hg] at this
        have e2 : ns[i]! = ns.getD i 0 := by rw [getElem!_pos ns i (by omega)]; simp [List.getD, show i < ns.length by omega]
        rw [e2]; simpa using this
      · have e2 : ns[i]! = ns.getD i 0 := by rw [getElem!_pos ns i hil]; simp [List.getD, hil]
        rw [e2, decide_eq_false_iff_not]
        by_cases e3 : i = j
        · subst e3; rw [hg]
          intro hlt; rw [cmpV_neg] at hlt; omega
        · have := ncl_cmp h (show j < i by omega) hil
          rw [hg] at this
          intro hlt
          have := cmpV_trans this hlt
          rw [cmpV_neg] at this; omega
    rw [hc, getElem!_toArray ns j hj, hg, decide_eq_true hj, decide_eq_true ht, decide_eq_true ((cmpV_zero t t).2 rfl)]
    rfl
  · rw [decide_eq_false ht]
    generalize ns.countP (fun x => decide (cmpV x t < 0)) = k
    by_cases hk : k < ns.length
    · rw [getElem!_toArray ns k hk]
      have : cmpV (ns.getD k 0) t ≠ 0 := fun e => ht (by rw [← (cmpV_zero _ _).1 e]; exact getD_mem hk)
      rw [decide_eq_false this, Bool.and_false]
    · rw [decide_eq_false hk, Bool.false_and]

theorem search_mono {ns : List Int} (h : NCl ns) (t : Int) : ∀ a b, a ≤ b → b < ns.toArray.size → cmpV ns.toArray[b]! t < 0 → cmpV ns.toArray[a]! t < 0 := by
  intro a b hab hb hlt
  rw [List.size_toArray] at hb
  by_cases e : a = b
  · subst e; exact hlt
  · rw [getElem!_toArray ns a (by omega)]
    rw [getElem!_toArray ns b hb] at hlt
    exact cmpV_trans (ncl_cmp h (show a < b by omega) hb) hlt

theorem below_sw {w w' : World} {g : Nat} {d : Array Int} (hH : Holds (Value.int .i64) w g 0 d) (h : SW (Value.int .i64) w g 0 d w') : Below w.heap.size w w' := by
  obtain ⟨n, os, rfl⟩ := h
  have e : sortWorld (Value.int .i64) w g 0 n d os = grow (Sort.ahead w n) os := by
    unfold sortWorld
    rw [putRow_ahead, putRow_self _ _ _ _ _ hH]
  rw [e]
  exact (below_drewN (Below.refl _ w) n).grown (grownBy_grow _ os) (Nat.le_refl _) (by simp)

set_option maxHeartbeats 400000 in
theorem has_any (w : World) (B : Nat) (v : Value) (ns : List Int) (t : Int) (h : Owns B w v ns) (hn : NCl ns) (hl : ns.length ≤ 16384) :
    Calls Try.prog 57 #[v, .int .i64 t] w fun e w' => e = .returned (.bool (decide (t ∈ ns))) ∧ Below w.heap.size w w' := by
  obtain ⟨g, cap, rfl, ho⟩ := h
  obtain ⟨g', cap', he, hB, hlt, h1, h2, h3, hH⟩ := holds_of_ownsRow (enc := Value.int .i64) ho (by simp)
  cases he
  have hcon := Any.slices_BinarySearchFunc Try.searchClause (Value.int .i64) (fun _ => rfl) (.int .i64 t) (fun x => cmpV x t) 61 #[] g 0 cap ns.toArray w eg_compare (cmpLaysT t g 0 _ w) hH hlt (Nat.lt_of_le_of_lt (show ns.toArray.size ≤ 16384 by simpa using hl) (by decide)) (search_mono hn t)
  change Calls Try.prog 65 _ _ _ at hcon
  rw [search_ok hn t, List.size_toArray] at hcon
  generalize (ns.toArray.toList.countP fun x => decide (cmpV x t < 0)) = q at hcon
  generalize decide (t ∈ ns) = r at hcon ⊢
  have HH := Lib.hid hH
  clear hH ho h3
  go_enter Try.func57, Try.ntmps57
  go_wp2_with (go_at_call 65; refine hcon.mono ?_; rintro e w1 ⟨rfl, hsw⟩; have HW := Lib.hid hsw; clear hsw)
  go_ret
  exact ⟨rfl, below_sw HH.out HW.out⟩
end Go.Proofs.Ytcppmjgglcobcaa

/- PROVED HERE: LitsClauses: for every clause and every model the statement's Go function returns true and leaves its arguments as they were. No condition. -/
import Derived.Test.YtcppmjgglcobcaaVal2
import Derived.Test.YtcppmjgglcobcaaLift
import Derived.Deep.Grids
namespace Go.Proofs.Ytcppmjgglcobcaa
open Go.RowKit Go.Shelf Go.Lib Go.Sort

/-- The error of a clause's normal form, and what can be said of the form: there is at most one. -/
def nrmE (zs : List Int) : Int := if wrongE zs ≠ 0 then wrongE zs else if taut zs = true then 10 else 0
def ResOf (zs ns : List Int) : Prop := (nrmE zs ≠ 0 ∧ ns = []) ∨ (nrmE zs = 0 ∧ NF zs ns)
theorem ResOf.unique {zs a b : List Int} (h : ResOf zs a) (h' : ResOf zs b) : a = b := by
  rcases h with ⟨h1, rfl⟩ | ⟨h1, h2⟩ <;> rcases h' with ⟨h3, rfl⟩ | ⟨h3, h4⟩
  · rfl
  · exact absurd h3 h1
  · exact absurd h1 h3
  · exact h2.unique h4

theorem nrm_uniform {w : World} {zs : List Int} {F : Nat} {args : Array Value} (h : Calls Try.prog F args w (NrmPost w zs)) :
    Calls Try.prog F args w fun e w' => ∃ v ns, e = .returned (.tuple #[v, .int .i64 (nrmE zs)]) ∧ Below w.heap.size w w' ∧ w'.ownsRow w.heap.size 3 1 v ns.length (ints ns) ∧ ResOf zs ns := by
  refine h.mono ?_
  rintro e w' ⟨hb, (⟨h1, rfl⟩ | ⟨h1, h2, rfl⟩ | ⟨h1, h2, ns, v, rfl, hnf, hown⟩)⟩
  · have e1 : nrmE zs = wrongE zs := if_pos h1
    exact ⟨_, [], by rw [e1], hb, World.ownsRow_nil _ _ _ _, .inl ⟨by rw [e1]; exact h1, rfl⟩⟩
  · have e1 : nrmE zs = 10 := by unfold nrmE; rw [if_neg (by simp [h1]), if_pos h2]
    exact ⟨_, [], by rw [e1], hb, World.ownsRow_nil _ _ _ _, .inl ⟨by rw [e1]; decide, rfl⟩⟩
  · have e1 : nrmE zs = 0 := by unfold nrmE; rw [if_neg (by simp [h1]), if_neg (by simp [h2])]
    exact ⟨v, ns, by rw [e1], hb, hown.own, .inr ⟨e1, hnf⟩⟩

theorem bool_info : (Try.prog.info? 4).map (fun i => (i.zero, i.size, i.bytes)) = some (some (.bool false), 1, 1) := by kernel_rfl
abbrev bools (bs : List Bool) : List Value := bs.map Value.bool
theorem bools_one (bs : List Bool) : ∀ u ∈ bools bs, u.oneCell' = true := by
  intro u hu
  obtain ⟨z, _, rfl⟩ := List.mem_map.1 hu
  rfl
theorem Bools.reads {w : World} {v : Value} {bs : List Bool} (h : Bools w v bs) : ∃ A c, v = .slice A bs.length c ∧ Reads w w.heap.size 1 A bs.length (bools bs) := by
  rcases h with ⟨A, c, rfl, rfl⟩ | ⟨b, off, cap, rfl, h1, h2, h3, h4⟩
  · exact ⟨A, c, rfl, by simp, by simp⟩
  · refine ⟨_, _, rfl, by simp, fun hn => ⟨_, rfl, h3, fun j u hu => ?_⟩⟩
    have hj : j < bs.length := by
      have := (List.getElem?_eq_some_iff.1 hu).1
      simpa using this
    rw [add_none, h4 j hj]
    simp [List.getD, hj] at hu ⊢
    rw [← hu]

/-- A row of truths of the call's own, read up to its first n. -/
theorem own_bools {w : World} {B n : Nat} {v : Value} {bs : List Bool} (h : w.ownsRow B 4 1 v n (bools bs ++ [.bool true])) (hn : n = bs.length + 1) :
    ∃ g cap, v = .slice (some ⟨g, 0, none⟩) n cap ∧ n ≤ cap ∧ cap ≤ maxLen ∧ Bools w (.slice (some ⟨g, 0, none⟩) bs.length cap) bs := by
  rcases h.2 with ⟨_, h0⟩ | ⟨g, cap, cur, rfl, hb, hg, h1, h2, h3, h4⟩
  · omega
  · refine ⟨g, cap, rfl, h1, h2, .inr ⟨g, 0, cap, rfl, by omega, h2, (Array.getElem?_eq_some_iff.1 hg).1, fun i hi => ?_⟩⟩
    have := h.cells (g := g) rfl i (.bool (bs.getD i false)) (by rw [List.getElem?_append_left (by simpa using hi)]; simp [List.getD, hi])
    rwa [add_none] at this

/-- SpoilInts on one row leaves another one: the other lies in a block that was made later. -/
theorem kept_later {w wx w' : World} {B C n m : Nat} {v u : Value} {xs ys : List Value} (hv : wx.ownsRow B 3 1 v n xs) (hle : wx.heap.size ≤ C) (hu : w.ownsRow C 3 1 u m ys) (hg : w.grownBy w' v.ownBlock) : w'.ownsRow C 3 1 u m ys := by
  refine hu.kept hg ?_
  cases hub : u.ownBlock with
  | none => exact .inl rfl
  | some k =>
    right
    intro e
    have h1 := (hu.lt k hub).1
    have h2 := (hv.lt k e.symm).2
    omega

set_option maxHeartbeats 4000000 in
theorem clauses_walk (w : World) (v u : Value) (zs : List Int) (bs : List Bool) (h : Ints w v zs) (h' : Bools w u bs) (hz : zs.length * 8 ≤ 140737488351232) (hbs : bs.length * 1 ≤ 140737488351232) :
    Calls Try.prog 4 #[v, u] w fun e w' => e = .returned (.bool true) ∧ Below w.heap.size w w' := by
  obtain ⟨A', c', rfl, hr'⟩ := h'.reads
  obtain ⟨i0, hi0, hz0, hz1, hz2⟩ := info_parts bool_info
  have HI := Lib.hid h
  have HI' := Lib.hid h'
  have HR' := Lib.hid hr'
  generalize hm : bs.length = m at *
  have HM := Lib.hid hm
  have hlent := lent_any w v zs h hz
  clear h h' hr' hm
  go_enter Try.func4, Try.ntmps4
  go_wp2_with (first
    | (go_at_call 17; refine hlent.mono ?_; rintro e w1 ⟨v1, rfl, hl1, hb1⟩; have HL1 := Lib.hid hl1; have HB1 := Lib.hid hb1; clear hl1)
    | (at_builtin; refine wpList_append_any _ rfl (.tmp 19) (.tmp 20) _ rfl w1.heap.size 4 i0 _ 1 1 Try.underlying29 hi0 hz0 hz1 hz2 rfl (by omega) (.slice (some ⟨w1.heap.size, 0, none⟩) 0 0) 0 [] rfl (World.ownsRow_made w1 #[] 0 (Nat.le_refl _) (by simp [maxLen]) rfl) w1.heap.size A' m c' (bools bs) rfl (((HR'.out.below HB1.out).more HB1.out.size).alloc (Nat.le_refl _) _) (bools_one bs) (by simp only [maxLen]; omega) (by omega) (by simp) ?_; intro v2 w2 hown2 hg2 hat2; have HO2 := Lib.hid hown2; have HB2 : Hid (Below w1.heap.size w1 w2) := ((Below.refl _ _).alloc (Nat.le_refl _) _).grown hg2 (by simp) (by intro k hk; cases hk; exact Nat.le_refl _); have hb2 := HB2.out; clear hown2 hg2 hat2)
    | (at_builtin; refine wpList_append_any _ rfl (.tmp 21) (.tmp 22) _ rfl w1.heap.size 4 i0 _ 1 1 Try.underlying29 hi0 hz0 hz1 hz2 rfl (by omega) v2 (0 + m) _ rfl (HO2.out.alloc _) (w2.heap.size + 1) (some ⟨w2.heap.size, 0, none⟩) 1 1 [.bool true] rfl (reads_one _ _ _) (by simp [Value.oneCell']) (by simp only [maxLen]; omega) (by omega) (by have := hb2.size; simp; omega) ?_; intro v3 w3 hown3 hg3 hat3; obtain ⟨g3, cap3, rfl, hc3, hm3, hbo3⟩ := own_bools (bs := bs) hown3 (by rw [HM.out]; omega); have HBO3 := Lib.hid hbo3; have HB3 : Hid (Below w1.heap.size w1 w3) := (hb2.alloc hb2.size _).grown hg3 (by have := hb2.size; simp; omega) (fun k hk => (HO2.out.lt k hk).1); clear hown3 hg3 hat3 hbo3)
    | (go_at_call 18; with_reducible refine (nrm_uniform (Normal_any w3 v1 zs (HL1.out.below HB3.out).reads)).mono ?_; rintro e w4 ⟨v4, n4, rfl, hb4, ho4, hr4⟩; have HB4 := Lib.hid hb4; have HO4 := Lib.hid ho4; have HR4 := Lib.hid hr4; clear hb4 ho4 hr4)
    | (go_at_call 18; with_reducible refine (nrm_uniform (Normal_any w4 v1 zs ((HL1.out.below HB3.out).below HB4.out).reads)).mono ?_; rintro e w5 ⟨v5, n5, rfl, hb5, ho5, hr5⟩; have HB5 := Lib.hid hb5; have HO5 := Lib.hid ho5; have HR5 := Lib.hid hr5; clear hb5 ho5 hr5)
    | (go_at_call 19; with_reducible refine (nrm_uniform (RNormal_any w5 v zs ((((HI.out.below HB1.out).below HB3.out).below HB4.out).below HB5.out))).mono ?_; rintro e w6 ⟨v6, n6, rfl, hb6, ho6, hr6⟩; have HB6 := Lib.hid hb6; have HO6 := Lib.hid ho6; have HR6 := Lib.hid hr6; clear hb6 ho6 hr6)
    | (go_at_call 20; refine (Value_any w6 v1 _ zs bs ((((HL1.out.below HB3.out).below HB4.out).below HB5.out).below HB6.out).reads (by have := (((HBO3.out.below HB4.out).below HB5.out).below HB6.out); rwa [HM.out] at this)).mono ?_; generalize hvb : valB zs bs = vb; generalize hve : valE zs bs.length = ve; rintro e w' ⟨rfl, rfl⟩; have HVB := Lib.hid hvb; have HVE := Lib.hid hve; clear hvb hve)
    | (go_at_call 21; refine (RValue_any w6 v _ zs bs (((((HI.out.below HB1.out).below HB3.out).below HB4.out).below HB5.out).below HB6.out) (((((HI'.out.below HB1.out).below HB3.out).below HB4.out).below HB5.out).below HB6.out)).mono ?_; rw [HVB.out, HVE.out]; rintro e w7 ⟨rfl, hb7⟩; have HB7 := Lib.hid hb7; clear hb7; have h46 : n4 = n6 := HR4.out.unique HR6.out; have h56 : n5 = n6 := HR5.out.unique HR6.out; have H46 := Lib.hid h46; have H56 := Lib.hid h56; clear h46 h56; have q1 : (nrmE zs != nrmE zs) = false := (by simp); have q2 : (ve != ve) = false := (by simp); have q3 : (vb != vb) = false := (by simp); have q4 : (nrmE zs == nrmE zs) = true := (by simp); have q5 : (ve == ve) = true := (by simp); have q6 : (vb == vb) = true := (by simp))
    | (go_at_call 22; with_reducible refine (SameClause_eq w7 v4 v6 n4 n6 (own_ints (own_below (own_below (own_below HO4.out HB5.out) HB6.out) HB7.out)) (own_ints (own_below HO6.out HB7.out)) H46.out).mono ?_; rintro e w8 ⟨rfl, hb8⟩; have HB8 := Lib.hid hb8; clear hb8)
    | (go_at_call 23; refine (SpoilInts_any w8 w3.heap.size n4.length v4 (ints n4) (-7) (own_below (own_below (own_below (own_below HO4.out HB5.out) HB6.out) HB7.out) HB8.out)).mono ?_; rintro e w9 ⟨rfl, hg9⟩; have HG9 := Lib.hid hg9; clear hg9; have hb38 : Below w3.heap.size w3 w8 := bt (bt (bt (bt HB4.out (Nat.le_refl _) HB5.out) (Nat.le_refl _) HB6.out) (Nat.le_refl _) HB7.out) (Nat.le_refl _) HB8.out; have HB39 : Hid (Below w3.heap.size w3 w9) := hb38.grown HG9.out hb38.size (fun k hk => (HO4.out.lt k hk).1); clear hb38; have HO5' := Lib.hid (kept_later HO4.out (Nat.le_refl _) (own_below (own_below (own_below HO5.out HB6.out) HB7.out) HB8.out) HG9.out); have HO6' := Lib.hid (kept_later HO4.out HB5.out.size (own_below (own_below HO6.out HB7.out) HB8.out) HG9.out))
    | (go_at_call 22; with_reducible refine (SameClause_eq w9 v5 v6 n5 n6 (own_ints HO5'.out) (own_ints HO6'.out) H56.out).mono ?_; rintro e w10 ⟨rfl, hb10⟩; have HB10 := Lib.hid hb10; clear hb10)
    | (go_at_call 24; refine (KeptInts_any w10 w.heap.size v1 v zs (((HL1.out.below HB3.out).below HB39.out).below HB10.out) ((((HI.out.below HB1.out).below HB3.out).below HB39.out).below HB10.out)).mono ?_; rintro e w11 ⟨rfl, hb11⟩; have HB11 := Lib.hid hb11; clear hb11)
    | (go_at_call 25; refine (SameBools_same w11 _ _ bs (by have := (((HBO3.out.below HB39.out).below HB10.out).below HB11.out); rwa [HM.out] at this) (((((HI'.out.below HB1.out).below HB3.out).below HB39.out).below HB10.out).below HB11.out)).mono ?_; rintro e w12 ⟨rfl, hb12⟩; have HB12 := Lib.hid hb12; clear hb12)
    | (go_at_call 16; refine (works_any w12).mono ?_; rintro e w13 ⟨rfl, hb13⟩; have HB13 := Lib.hid hb13; clear hb13))
  go_ret
  exact ⟨rfl, bt (bt (bt (bt (bt (bt HB1.out (Nat.le_refl _) HB3.out) (Nat.le_refl _) HB39.out) (Nat.le_refl _) HB10.out) (Nat.le_refl _) HB11.out) (Nat.le_refl _) HB12.out) (Nat.le_refl _) HB13.out⟩
end Go.Proofs.Ytcppmjgglcobcaa

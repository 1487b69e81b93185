/- Ascii: the header of a text. -/
import Derived.Test.YtkkolefhfmlhfabDoorAscR
namespace Go.Proofs.YtkkolefhfmlhfabDoor
open Go.RowKit

theorem badC_eq (c : List Nat) (h : c ≠ []) : (16384 < c.getD 0 0 ∨ (c.drop 1).any (fun n => decide (16384 < n)) = true ∨ c.getD 0 0 < c.getD 1 0 + c.getD 2 0 + c.getD 4 0) ↔ badC c = true := by
  cases c with
  | nil => exact absurd rfl h
  | cons a r =>
    unfold badC
    simp only [List.any_cons, List.getD_cons_zero, List.drop_succ_cons, List.drop_zero, Bool.or_eq_true, decide_eq_true_eq]
    rw [or_assoc]
/-- Nine counts. -/
def nine (ns : List Nat) : List Nat := ns ++ List.replicate (9 - ns.length) 0
theorem headA_none {s : Bs} (h : lineA s = none) : headA s = .error 40 := by unfold headA; rw [h]
theorem headA_word {s l r : Bs} (h : lineA s = some (l, r)) (hw : ¬ ((cutS l).1 = aagW ∨ (cutS l).1 = aigW)) : headA s = .error 40 := by
  unfold headA
  rw [h]
  simp only
  cases numbersA 5 9 (cutS l).2 with
  | none => rfl
  | some ns => simp only; rw [if_neg hw]
theorem headA_nums {s l r : Bs} (h : lineA s = some (l, r)) (hn : numbersA 5 9 (cutS l).2 = none) : headA s = .error 40 := by
  unfold headA
  rw [h]
  simp only
  rw [hn]
theorem headA_ok {s l r : Bs} {ns : List Nat} (h : lineA s = some (l, r)) (hw : (cutS l).1 = aagW ∨ (cutS l).1 = aigW) (hn : numbersA 5 9 (cutS l).2 = some ns) : headA s = if badC (nine ns) = true then .error 41 else .ok ((cutS l).1, nine ns, r) := by
  have hne : nine ns ≠ [] := by
    intro e
    have h9 := congrArg List.length e
    rw [nine, List.length_append, List.length_replicate, List.length_nil] at h9
    omega
  have e : headA s = if (16384 < (nine ns).getD 0 0 ∨ ((nine ns).drop 1).any (fun n => decide (16384 < n)) = true ∨ (nine ns).getD 0 0 < (nine ns).getD 1 0 + (nine ns).getD 2 0 + (nine ns).getD 4 0) then .error 41 else .ok ((cutS l).1, nine ns, r) := by
    unfold headA
    rw [h]
    simp only
    rw [hn]
    simp only
    rw [if_pos hw]
    rfl
  rw [e]
  by_cases hb : badC (nine ns) = true
  · rw [if_pos hb, if_pos ((badC_eq _ hne).2 hb)]
  · rw [if_neg hb, if_neg (fun h9 => hb ((badC_eq _ hne).1 h9))]
theorem spl_nine (ns : List Nat) : splice ((List.replicate 9 (0 : Int)).map (Value.int .i64)) 0 ((intsA ns).map (Value.int .i64)) = (intsA (nine ns)).map (Value.int .i64) := by
  have hl9 : ((intsA ns).map (Value.int .i64)).length = ns.length := by simp [intsA]
  unfold splice
  rw [hl9, List.map_replicate, List.drop_replicate, List.take_zero, List.nil_append, Nat.zero_add]
  unfold nine intsA
  rw [List.map_append, List.map_append, List.map_replicate, List.map_replicate]
  rfl
theorem numbersA_ok {least most : Nat} {l : Bs} {ns : List Nat} (h : numbersA least most l = some ns) : least ≤ ns.length ∧ ns.length ≤ most ∧ ∀ x ∈ ns, x ≤ 2147483647 := by
  unfold numbersA at h
  split at h
  · cases h
  · obtain ⟨e, hv⟩ := numsA_some h
    refine ⟨by omega, by omega, fun x hx => ?_⟩
    obtain ⟨i, hi, rfl⟩ := List.getElem_of_mem hx
    exact numA_le (hv i _ _ (List.getElem?_eq_getElem (by omega)) (List.getElem?_eq_getElem hi))
theorem strB_isL (l m : Bs) : ((strB l).toList == m) = decide (l = m) := by
  rw [strB_toList]
  by_cases h : l = m
  · subst h; simp
  · simp [h]
/-- What header answers. -/
def HdAns (w : World) (s : Bs) (q : Except Int (Bs × List Nat × Bs)) (e : Ending) (w' : World) : Prop := match q with
  | .error k => e = pan 0 k
  | .ok (wd, c, r) => ∃ g, e = .returned (.tuple #[.string (strB wd), .slice (some ⟨g, 0, none⟩) 9 9, .int .i64 ((s.length - r.length : Nat) : Int)]) ∧ w.heap.size ≤ g ∧ Nums w' g (intsA c)
set_option maxHeartbeats 8000000 in
set_option maxRecDepth 100000 in
theorem header_any (w : World) (B : Nat) (s : Bs) (hs : s.length ≤ 262144) (lib : LibB B w) (hB : B ≤ w.heap.size) :
    Calls Tryd.prog 23 #[.string (strB s)] w fun e w' => Below w.heap.size w w' ∧ HdAns w s (headA s) e w' := by
  obtain ⟨mx, hmx⟩ := lib.here.max
  have hcut := Tryd.strings_Cut (strB s) (strB [10]) mx w (by rw [strB_size]; omega) hmx
  rw [strB_list, strB_list] at hcut
  have HLB := Lib.hid lib
  obtain ⟨q, hq⟩ : ∃ q, headA s = q := ⟨_, rfl⟩
  rw [hq]
  obtain ⟨t1, t2, t3, ht⟩ : ∃ (t1 t2 : Bs) (t3 : Bool), Lib.cut s [10] = (t1, t2, t3) := ⟨_, _, _, rfl⟩
  rw [ht] at hcut
  rw [cut_lineA] at ht
  have HCA : Hid ((t3 = false ∧ q = .error 40) ∨ (t3 = true ∧ lineA s = some (t1, t2))) := Lib.hid (by
    cases hl : lineA s with
    | none =>
      rw [hl] at ht
      simp only [Prod.mk.injEq] at ht
      exact .inl ⟨ht.2.2.symm, by rw [← hq, headA_none hl]⟩
    | some y =>
      obtain ⟨a, r⟩ := y
      rw [hl] at ht
      simp only [Prod.mk.injEq] at ht
      exact .inr ⟨ht.2.2.symm, by rw [ht.1, ht.2.1]⟩)
  have ht1 : t1.length ≤ s.length := by
    cases hl : lineA s with
    | none =>
      rw [hl] at ht
      simp only [Prod.mk.injEq] at ht
      rw [← ht.1]; exact Nat.le_refl _
    | some y =>
      obtain ⟨a, r⟩ := y
      rw [hl] at ht
      simp only [Prod.mk.injEq] at ht
      have h9 := (lineA_len hl).2
      rw [← ht.1]; omega
  have HC1 : Hid (Calls Tryd.prog 47 #[.string (strB s), .string ⟨#[10]⟩] w fun e w' => e = .returned (.tuple #[.string (strB t1), .string (strB t2), .bool t3]) ∧ ∃ n, w' = w.drewN n) := Lib.hid hcut
  clear hcut ht hmx
  obtain ⟨bz, hbz⟩ := cut_cutS t1
  obtain ⟨hk1, hk2⟩ := cutS_len t1
  obtain ⟨l1, hl1⟩ : ∃ x, (cutS t1).1 = x := ⟨_, rfl⟩
  obtain ⟨l2, hl2⟩ : ∃ x, (cutS t1).2 = x := ⟨_, rfl⟩
  rw [hl1, hl2] at hbz
  rw [hl1] at hk1
  rw [hl2] at hk2
  have HBZ := Lib.hid hbz
  have HT1 := Lib.hid ht1
  have HC2 : Hid (∀ wx, Below w.heap.size w wx → Calls Tryd.prog 47 #[.string (strB t1), .string ⟨#[32]⟩] wx fun e w' => e = .returned (.tuple #[.string (strB l1), .string (strB l2), .bool bz]) ∧ ∃ n, w' = wx.drewN n) := Lib.hid (fun wx hb => by
    obtain ⟨mx, hmx⟩ := (HLB.out.up hB hb).here.max
    have hcut := Tryd.strings_Cut (strB t1) (strB [32]) mx wx (by rw [strB_size]; have := HT1.out; omega) hmx
    rw [strB_list, strB_list, HBZ.out] at hcut
    exact hcut)
  have HNO := Lib.hid (fun (wx : World) (hb : Below w.heap.size w wx) => numbersOf_any wx B l2 5 9 (by omega) (by omega) (by omega) (HLB.out.up hB hb) (Nat.le_trans hB hb.size))
  have HH : Hid (∀ r : Bs, lineA s = some (t1, r) → (¬ (l1 = aagW ∨ l1 = aigW) → q = .error 40) ∧ (numbersA 5 9 l2 = none → q = .error 40) ∧ ∀ ns, (l1 = aagW ∨ l1 = aigW) → numbersA 5 9 l2 = some ns → q = if badC (nine ns) = true then .error 41 else .ok (l1, nine ns, r)) := Lib.hid (fun r h => by
    refine ⟨fun hw => ?_, fun hn => ?_, fun ns hw hn => ?_⟩
    · rw [← hq]; exact headA_word h (by rw [hl1]; exact hw)
    · rw [← hq]; exact headA_nums h (by rw [hl2]; exact hn)
    · rw [← hq, headA_ok h (by rw [hl1]; exact hw) (by rw [hl2]; exact hn), hl1])
  have HGU := Lib.hid (fun (wx : World) => giveUp_any wx 0 40)
  have HCLN : Hid (∀ wx : World, Calls Tryd.prog 50 #[.string (strB l1)] wx fun e w' => e = .returned (.string (strB l1)) ∧ Below wx.heap.size wx w') := Lib.hid (fun wx => clone_any wx l1 (by omega))
  clear hbz hl1 hl2 hk1 hk2 hq lib ht1
  have z1 : ((strB l1).toList == [97, 97, 103]) = decide (l1 = aagW) := strB_isL l1 aagW
  have z2 : ((strB l1).toList == [97, 105, 103]) = decide (l1 = aigW) := strB_isL l1 aigW
  rcases HCA.out with ⟨rfl, hE⟩ | ⟨rfl, hl⟩
  · have HE := Lib.hid hE
    clear hE z1 z2
    cases hn : numbersA 5 9 l2 with
    | none =>
      rw [hn] at HNO
      clear hn
      go_enter Tryd.func23, Tryd.ntmps23
      go_upto_region 2 with (go_at_call 47; refine HC1.out.mono ?_; rintro e w1 ⟨rfl, n1, hw1⟩; have HB1 : Hid (Below w.heap.size w w1) := Lib.hid (by rw [hw1]; exact below_drewN (Below.refl _ _) n1); clear hw1)
      go_upto_region 3 with (go_at_call 47; refine (HC2.out w1 HB1.out).mono ?_; rintro e w2 ⟨rfl, n2, hw2⟩; have HB2 : Hid (Below w.heap.size w w2) := Lib.hid (by rw [hw2]; exact below_drewN HB1.out n2); clear hw2)
      go_upto_region 4 with (go_at_call 48; refine (HNO.out w2 HB2.out).mono ?_; rintro e w3 ⟨hb, he⟩; have he2 : e = .returned (.tuple #[.slice none 0 0, .bool false]) := he; subst he2; have HB3 := Lib.hid (bt HB2.out (Nat.le_refl _) hb); clear hb he)
      go_wp2_with (go_at_call 27; refine (HGU.out _).mono ?_; rintro e w6 ⟨rfl, rfl⟩)
      exact ⟨rfl, HB3.out, by rw [HE.out]; rfl⟩
    | some ns =>
      rw [hn] at HNO
      clear hn
      go_enter Tryd.func23, Tryd.ntmps23
      go_upto_region 2 with (go_at_call 47; refine HC1.out.mono ?_; rintro e w1 ⟨rfl, n1, hw1⟩; have HB1 : Hid (Below w.heap.size w w1) := Lib.hid (by rw [hw1]; exact below_drewN (Below.refl _ _) n1); clear hw1)
      go_upto_region 3 with (go_at_call 47; refine (HC2.out w1 HB1.out).mono ?_; rintro e w2 ⟨rfl, n2, hw2⟩; have HB2 : Hid (Below w.heap.size w w2) := Lib.hid (by rw [hw2]; exact below_drewN HB1.out n2); clear hw2)
      go_upto_region 4 with (go_at_call 48; refine (HNO.out w2 HB2.out).mono ?_; rintro e w3 ⟨hb, he⟩; obtain ⟨g3, rfl, hg3, hn3⟩ := he; have HB3 := Lib.hid (bt HB2.out (Nat.le_refl _) hb); have HN3 := Lib.hid hn3; have HG3 : Hid (w.heap.size ≤ g3) := Lib.hid (Nat.le_trans HB2.out.size hg3); clear hb hn3 hg3)
      go_wp2_with (go_at_call 27; refine (HGU.out _).mono ?_; rintro e w6 ⟨rfl, rfl⟩)
      exact ⟨rfl, HB3.out, by rw [HE.out]; rfl⟩
  · obtain ⟨h1, h2, h3⟩ := HH.out _ hl
    by_cases hw : l1 = aagW ∨ l1 = aigW
    · cases hn : numbersA 5 9 l2 with
      | none =>
        have HE := Lib.hid (h2 hn)
        rw [hn] at HNO
        clear h1 h2 h3 hn hl
        by_cases ha : l1 = aagW
        · have y1 : ((strB l1).toList == [97, 97, 103]) = true := by rw [z1]; simpa using ha
          have y3 : ((strB l1).toList != [97, 97, 103]) = false := by rw [bne, y1]; rfl
          clear z1 z2 hw ha
          go_enter Tryd.func23, Tryd.ntmps23
          go_upto_region 2 with (go_at_call 47; refine HC1.out.mono ?_; rintro e w1 ⟨rfl, n1, hw1⟩; have HB1 : Hid (Below w.heap.size w w1) := Lib.hid (by rw [hw1]; exact below_drewN (Below.refl _ _) n1); clear hw1)
          go_upto_region 3 with (go_at_call 47; refine (HC2.out w1 HB1.out).mono ?_; rintro e w2 ⟨rfl, n2, hw2⟩; have HB2 : Hid (Below w.heap.size w w2) := Lib.hid (by rw [hw2]; exact below_drewN HB1.out n2); clear hw2)
          go_upto_region 4 with (go_at_call 48; refine (HNO.out w2 HB2.out).mono ?_; rintro e w3 ⟨hb, he⟩; have he2 : e = .returned (.tuple #[.slice none 0 0, .bool false]) := he; subst he2; have HB3 := Lib.hid (bt HB2.out (Nat.le_refl _) hb); clear hb he)
          go_wp2_with (go_at_call 27; refine (HGU.out _).mono ?_; rintro e w6 ⟨rfl, rfl⟩)
          exact ⟨rfl, HB3.out, by rw [HE.out]; rfl⟩
        · have hi : l1 = aigW := hw.resolve_left ha
          have y1 : ((strB l1).toList == [97, 97, 103]) = false := by rw [z1]; simpa using ha
          have y3 : ((strB l1).toList != [97, 97, 103]) = true := by rw [bne, y1]; rfl
          have y2 : ((strB l1).toList == [97, 105, 103]) = true := by rw [z2]; simpa using hi
          have y4 : ((strB l1).toList != [97, 105, 103]) = false := by rw [bne, y2]; rfl
          clear z1 z2 hw ha hi
          go_enter Tryd.func23, Tryd.ntmps23
          go_upto_region 2 with (go_at_call 47; refine HC1.out.mono ?_; rintro e w1 ⟨rfl, n1, hw1⟩; have HB1 : Hid (Below w.heap.size w w1) := Lib.hid (by rw [hw1]; exact below_drewN (Below.refl _ _) n1); clear hw1)
          go_upto_region 3 with (go_at_call 47; refine (HC2.out w1 HB1.out).mono ?_; rintro e w2 ⟨rfl, n2, hw2⟩; have HB2 : Hid (Below w.heap.size w w2) := Lib.hid (by rw [hw2]; exact below_drewN HB1.out n2); clear hw2)
          go_upto_region 4 with (go_at_call 48; refine (HNO.out w2 HB2.out).mono ?_; rintro e w3 ⟨hb, he⟩; have he2 : e = .returned (.tuple #[.slice none 0 0, .bool false]) := he; subst he2; have HB3 := Lib.hid (bt HB2.out (Nat.le_refl _) hb); clear hb he)
          go_wp2_with (go_at_call 27; refine (HGU.out _).mono ?_; rintro e w6 ⟨rfl, rfl⟩)
          exact ⟨rfl, HB3.out, by rw [HE.out]; rfl⟩
      | some ns =>
        have HE := Lib.hid (h3 ns hw hn)
        have HNS := Lib.hid (numbersA_ok hn)
        rw [hn] at HNO
        have hr1 := (lineA_len hl).2
        have HLEN : Hid (s.length - t2.length = t1.length + 1 ∧ t1.length + 1 ≤ 262144) := Lib.hid ⟨by omega, by omega⟩
        clear h1 h2 h3 hn hl hr1
        have hor : ((strB l1).toList == [97, 97, 103]) = true ∨ (((strB l1).toList == [97, 97, 103]) = false ∧ ((strB l1).toList == [97, 105, 103]) = true) := by
          rw [z1, z2]
          by_cases ha : l1 = aagW
          · left; simpa using ha
          · right
            exact ⟨by simpa using ha, by have hi : l1 = aigW := hw.resolve_left ha; simpa using hi⟩
        clear z1 z2 hw
        rcases hor with y1 | ⟨y1, y2⟩
        · have y3 : ((strB l1).toList != [97, 97, 103]) = false := by rw [bne, y1]; rfl
          go_enter Tryd.func23, Tryd.ntmps23
          go_upto_region 2 with (go_at_call 47; refine HC1.out.mono ?_; rintro e w1 ⟨rfl, n1, hw1⟩; have HB1 : Hid (Below w.heap.size w w1) := Lib.hid (by rw [hw1]; exact below_drewN (Below.refl _ _) n1); clear hw1)
          go_upto_region 3 with (go_at_call 47; refine (HC2.out w1 HB1.out).mono ?_; rintro e w2 ⟨rfl, n2, hw2⟩; have HB2 : Hid (Below w.heap.size w w2) := Lib.hid (by rw [hw2]; exact below_drewN HB1.out n2); clear hw2)
          go_upto_region 4 with (go_at_call 48; refine (HNO.out w2 HB2.out).mono ?_; rintro e w3 ⟨hb, he⟩; obtain ⟨g3, rfl, hg3, hn3⟩ := he; have HB3 := Lib.hid (bt HB2.out (Nat.le_refl _) hb); have HN3 := Lib.hid hn3; have HG3 : Hid (w.heap.size ≤ g3) := Lib.hid (Nat.le_trans HB2.out.size hg3); clear hb hn3 hg3)
          obtain ⟨hn5, hn9, hnle⟩ := HNS.out
          have hmk : ∀ wx : World, (Instr.makeSlice 22 (.int .i64 9) (.int .i64 9)).run Tryd.prog wx = .ok (.slice (some ⟨wx.heap.size, 0, none⟩) 9 9) (wx.alloc (.cells (madeCells #[Value.int .i64 0] 9) 3)) := fun wx => make_ints 9 (by omega) wx
          have HN4 : Hid (Nums (w3.alloc (.cells (madeCells #[Value.int .i64 0] 9) 3)) w3.heap.size (List.replicate 9 0)) := Lib.hid (new_ints w3 9)
          have HN34 : Hid (Nums (w3.alloc (.cells (madeCells #[Value.int .i64 0] 9) 3)) g3 (intsA ns)) := Lib.hid (Blk.alloc HN3.out _)
          have HB4 : Hid (Below w.heap.size w (w3.alloc (.cells (madeCells #[Value.int .i64 0] 9) 3))) := Lib.hid (HB3.out.alloc HB3.out.size _)
          have HG4 : Hid (w.heap.size ≤ w3.heap.size) := Lib.hid HB3.out.size
          go_upto_region 7 with (fail)
          generalize w3.alloc (.cells (madeCells #[Value.int .i64 0] 9) 3) = w4 at HN4 HN34 HB4 ⊢
          obtain ⟨g4, hg4⟩ : ∃ x, w3.heap.size = x := ⟨_, rfl⟩
          rw [hg4] at HN4 HG4 ⊢
          clear hg4 hmk
          have hspl := spl_nine ns
          have HNN : Hid ((nine ns).length = 9) := Lib.hid (by unfold nine; rw [List.length_append, List.length_replicate]; omega)
          have HNL9 : Hid (∀ x ∈ nine ns, x ≤ 2147483647) := Lib.hid (fun x hx => by
            unfold nine at hx
            rcases List.mem_append.1 hx with hx | hx
            · exact hnle x hx
            · rw [(List.mem_replicate.1 hx).2]; omega)
          have HCP1 : Hid (((intsA ns).map (Value.int .i64)).length = Nat.min ns.length 9) := Lib.hid (by rw [List.length_map, show (intsA ns).length = ns.length by simp [intsA]]; exact (Nat.min_eq_left hn9).symm)
          have HCP2 : Hid (0 < ((intsA ns).map (Value.int .i64)).length → (some ⟨g4, 0, none⟩ : Option Addr) = some ⟨g4, 0, none⟩ ∧ ∃ ad, (some ⟨g3, 0, none⟩ : Option Addr) = some ad ∧ ∀ (j : Nat) (v : Value), ((intsA ns).map (Value.int .i64))[j]? = some v → w4.cell? (ad.add j) = some v) := Lib.hid (fun _ => ⟨rfl, ⟨g3, 0, none⟩, rfl, fun j v hv => by
            rw [add_none, Nat.zero_add]
            have h9 := Blk.cell HN34.out j
            rw [h9, List.getElem?_toArray]
            exact hv⟩)
          have HCP3 : Hid (0 + ((intsA ns).map (Value.int .i64)).length ≤ ((List.replicate 9 (0 : Int)).map (Value.int .i64)).length) := Lib.hid (by simp [intsA]; omega)
          have HCP4 : Hid (∀ v ∈ (intsA ns).map (Value.int .i64), v.oneCell' = true) := Lib.hid (fun v hv => by
            obtain ⟨x, _, rfl⟩ := List.mem_map.1 hv
            rfl)
          obtain ⟨nn, hnn⟩ : ∃ nn, ns.length = nn := ⟨_, rfl⟩
          rw [hnn] at HCP1 ⊢
          clear hn5 hn9 hnle hnn
          by_cases hb : badC (nine ns) = true
          · have HE2 : Hid (q = .error 41) := Lib.hid (by rw [HE.out, if_pos hb])
            have HBC := Lib.hid hb
            clear hb
            go_upto_region 8 with ((with_reducible show wpList _ _ _ _ _ _); refine wpList_copy_splice rfl (.tmp 45) (.tmp 46) 22 22 rfl 3 Tryd.underlying22 (by kernel_rfl) (some ⟨g4, 0, none⟩) (some ⟨g3, 0, none⟩) 9 9 nn nn rfl rfl g4 0 ((List.replicate 9 (0 : Int)).map (Value.int .i64)) 3 HN4.out ((intsA ns).map (Value.int .i64)) HCP1.out HCP2.out HCP3.out HCP4.out w.heap.size w HB4.out HG4.out ?_; intro w5 hn5 hb5)
            have HN5 : Hid (Nums w5 g4 (intsA (nine ns))) := Lib.hid (by
              have h9 := hn5.out
              rw [hspl] at h9
              exact h9)
            have HB5 := Lib.hid hb5
            have HCC := Lib.hid (checkCounts_any w5 g4 (nine ns) HNN.out HN5.out HNL9.out)
            clear hn5 hb5
            go_wp2_with (go_at_call 49; refine HCC.out.mono ?_; rintro e w6 ⟨hb6, he⟩; have he2 : e = pan 0 41 := (he.resolve_right (fun h => by rw [HBC.out] at h; cases h.1)).2; subst he2; have HB6 := Lib.hid (bt HB5.out (Nat.le_refl _) hb6); clear hb6 he)
            exact ⟨rfl, HB6.out, by rw [HE2.out]; rfl⟩
          · have HE2 : Hid (q = .ok (l1, nine ns, t2)) := Lib.hid (by rw [HE.out, if_neg hb])
            have HBC : Hid (badC (nine ns) = false) := Lib.hid (by simpa using hb)
            clear hb
            go_upto_region 8 with ((with_reducible show wpList _ _ _ _ _ _); refine wpList_copy_splice rfl (.tmp 45) (.tmp 46) 22 22 rfl 3 Tryd.underlying22 (by kernel_rfl) (some ⟨g4, 0, none⟩) (some ⟨g3, 0, none⟩) 9 9 nn nn rfl rfl g4 0 ((List.replicate 9 (0 : Int)).map (Value.int .i64)) 3 HN4.out ((intsA ns).map (Value.int .i64)) HCP1.out HCP2.out HCP3.out HCP4.out w.heap.size w HB4.out HG4.out ?_; intro w5 hn5 hb5)
            have HN5 : Hid (Nums w5 g4 (intsA (nine ns))) := Lib.hid (by
              have h9 := hn5.out
              rw [hspl] at h9
              exact h9)
            have HB5 := Lib.hid hb5
            have HCC := Lib.hid (checkCounts_any w5 g4 (nine ns) HNN.out HN5.out HNL9.out)
            have hsz1 : (strB t1).size = t1.length := strB_size t1
            have hwr : IntKind.i64.wrap ((t1.length : Int) + 1) = ((s.length - t2.length : Nat) : Int) := by have := HLEN.out; rw [IntKind.wrap_i64]; omega
            clear hn5 hb5
            go_upto_region 9 with (go_at_call 49; refine HCC.out.mono ?_; rintro e w6 ⟨hb6, he⟩; have he2 : e = .returned (.tuple #[]) := (he.resolve_left (fun h => by rw [HBC.out] at h; cases h.1)).2; subst he2; have HB6 := Lib.hid (bt HB5.out (Nat.le_refl _) hb6); have HN6 : Hid (Nums w6 g4 (intsA (nine ns))) := Lib.hid (Blk.below HN5.out hb6 (Blk.lt HN5.out)); clear hb6 he)
            go_wp2_with (go_at_call 50; refine (HCLN.out _).mono ?_; rintro e w7 ⟨rfl, hb7⟩; have HB7 := Lib.hid (bt HB6.out (Nat.le_refl _) hb7); have HN7 : Hid (Nums w7 g4 (intsA (nine ns))) := Lib.hid (Blk.below HN6.out hb7 (Blk.lt HN6.out)); clear hb7)
            go_ret3
            refine ⟨HB7.out, ?_⟩
            rw [HE2.out]
            exact ⟨g4, rfl, HG4.out, HN7.out⟩
        · have y3 : ((strB l1).toList != [97, 97, 103]) = true := by rw [bne, y1]; rfl
          have y4 : ((strB l1).toList != [97, 105, 103]) = false := by rw [bne, y2]; rfl
          go_enter Tryd.func23, Tryd.ntmps23
          go_upto_region 2 with (go_at_call 47; refine HC1.out.mono ?_; rintro e w1 ⟨rfl, n1, hw1⟩; have HB1 : Hid (Below w.heap.size w w1) := Lib.hid (by rw [hw1]; exact below_drewN (Below.refl _ _) n1); clear hw1)
          go_upto_region 3 with (go_at_call 47; refine (HC2.out w1 HB1.out).mono ?_; rintro e w2 ⟨rfl, n2, hw2⟩; have HB2 : Hid (Below w.heap.size w w2) := Lib.hid (by rw [hw2]; exact below_drewN HB1.out n2); clear hw2)
          go_upto_region 4 with (go_at_call 48; refine (HNO.out w2 HB2.out).mono ?_; rintro e w3 ⟨hb, he⟩; obtain ⟨g3, rfl, hg3, hn3⟩ := he; have HB3 := Lib.hid (bt HB2.out (Nat.le_refl _) hb); have HN3 := Lib.hid hn3; have HG3 : Hid (w.heap.size ≤ g3) := Lib.hid (Nat.le_trans HB2.out.size hg3); clear hb hn3 hg3)
          obtain ⟨hn5, hn9, hnle⟩ := HNS.out
          have hmk : ∀ wx : World, (Instr.makeSlice 22 (.int .i64 9) (.int .i64 9)).run Tryd.prog wx = .ok (.slice (some ⟨wx.heap.size, 0, none⟩) 9 9) (wx.alloc (.cells (madeCells #[Value.int .i64 0] 9) 3)) := fun wx => make_ints 9 (by omega) wx
          have HN4 : Hid (Nums (w3.alloc (.cells (madeCells #[Value.int .i64 0] 9) 3)) w3.heap.size (List.replicate 9 0)) := Lib.hid (new_ints w3 9)
          have HN34 : Hid (Nums (w3.alloc (.cells (madeCells #[Value.int .i64 0] 9) 3)) g3 (intsA ns)) := Lib.hid (Blk.alloc HN3.out _)
          have HB4 : Hid (Below w.heap.size w (w3.alloc (.cells (madeCells #[Value.int .i64 0] 9) 3))) := Lib.hid (HB3.out.alloc HB3.out.size _)
          have HG4 : Hid (w.heap.size ≤ w3.heap.size) := Lib.hid HB3.out.size
          go_upto_region 7 with (fail)
          generalize w3.alloc (.cells (madeCells #[Value.int .i64 0] 9) 3) = w4 at HN4 HN34 HB4 ⊢
          obtain ⟨g4, hg4⟩ : ∃ x, w3.heap.size = x := ⟨_, rfl⟩
          rw [hg4] at HN4 HG4 ⊢
          clear hg4 hmk
          have hspl := spl_nine ns
          have HNN : Hid ((nine ns).length = 9) := Lib.hid (by unfold nine; rw [List.length_append, List.length_replicate]; omega)
          have HNL9 : Hid (∀ x ∈ nine ns, x ≤ 2147483647) := Lib.hid (fun x hx => by
            unfold nine at hx
            rcases List.mem_append.1 hx with hx | hx
            · exact hnle x hx
            · rw [(List.mem_replicate.1 hx).2]; omega)
          have HCP1 : Hid (((intsA ns).map (Value.int .i64)).length = Nat.min ns.length 9) := Lib.hid (by rw [List.length_map, show (intsA ns).length = ns.length by simp [intsA]]; exact (Nat.min_eq_left hn9).symm)
          have HCP2 : Hid (0 < ((intsA ns).map (Value.int .i64)).length → (some ⟨g4, 0, none⟩ : Option Addr) = some ⟨g4, 0, none⟩ ∧ ∃ ad, (some ⟨g3, 0, none⟩ : Option Addr) = some ad ∧ ∀ (j : Nat) (v : Value), ((intsA ns).map (Value.int .i64))[j]? = some v → w4.cell? (ad.add j) = some v) := Lib.hid (fun _ => ⟨rfl, ⟨g3, 0, none⟩, rfl, fun j v hv => by
            rw [add_none, Nat.zero_add]
            have h9 := Blk.cell HN34.out j
            rw [h9, List.getElem?_toArray]
            exact hv⟩)
          have HCP3 : Hid (0 + ((intsA ns).map (Value.int .i64)).length ≤ ((List.replicate 9 (0 : Int)).map (Value.int .i64)).length) := Lib.hid (by simp [intsA]; omega)
          have HCP4 : Hid (∀ v ∈ (intsA ns).map (Value.int .i64), v.oneCell' = true) := Lib.hid (fun v hv => by
            obtain ⟨x, _, rfl⟩ := List.mem_map.1 hv
            rfl)
          obtain ⟨nn, hnn⟩ : ∃ nn, ns.length = nn := ⟨_, rfl⟩
          rw [hnn] at HCP1 ⊢
          clear hn5 hn9 hnle hnn
          by_cases hb : badC (nine ns) = true
          · have HE2 : Hid (q = .error 41) := Lib.hid (by rw [HE.out, if_pos hb])
            have HBC := Lib.hid hb
            clear hb
            go_upto_region 8 with ((with_reducible show wpList _ _ _ _ _ _); refine wpList_copy_splice rfl (.tmp 45) (.tmp 46) 22 22 rfl 3 Tryd.underlying22 (by kernel_rfl) (some ⟨g4, 0, none⟩) (some ⟨g3, 0, none⟩) 9 9 nn nn rfl rfl g4 0 ((List.replicate 9 (0 : Int)).map (Value.int .i64)) 3 HN4.out ((intsA ns).map (Value.int .i64)) HCP1.out HCP2.out HCP3.out HCP4.out w.heap.size w HB4.out HG4.out ?_; intro w5 hn5 hb5)
            have HN5 : Hid (Nums w5 g4 (intsA (nine ns))) := Lib.hid (by
              have h9 := hn5.out
              rw [hspl] at h9
              exact h9)
            have HB5 := Lib.hid hb5
            have HCC := Lib.hid (checkCounts_any w5 g4 (nine ns) HNN.out HN5.out HNL9.out)
            clear hn5 hb5
            go_wp2_with (go_at_call 49; refine HCC.out.mono ?_; rintro e w6 ⟨hb6, he⟩; have he2 : e = pan 0 41 := (he.resolve_right (fun h => by rw [HBC.out] at h; cases h.1)).2; subst he2; have HB6 := Lib.hid (bt HB5.out (Nat.le_refl _) hb6); clear hb6 he)
            exact ⟨rfl, HB6.out, by rw [HE2.out]; rfl⟩
          · have HE2 : Hid (q = .ok (l1, nine ns, t2)) := Lib.hid (by rw [HE.out, if_neg hb])
            have HBC : Hid (badC (nine ns) = false) := Lib.hid (by simpa using hb)
            clear hb
            go_upto_region 8 with ((with_reducible show wpList _ _ _ _ _ _); refine wpList_copy_splice rfl (.tmp 45) (.tmp 46) 22 22 rfl 3 Tryd.underlying22 (by kernel_rfl) (some ⟨g4, 0, none⟩) (some ⟨g3, 0, none⟩) 9 9 nn nn rfl rfl g4 0 ((List.replicate 9 (0 : Int)).map (Value.int .i64)) 3 HN4.out ((intsA ns).map (Value.int .i64)) HCP1.out HCP2.out HCP3.out HCP4.out w.heap.size w HB4.out HG4.out ?_; intro w5 hn5 hb5)
            have HN5 : Hid (Nums w5 g4 (intsA (nine ns))) := Lib.hid (by
              have h9 := hn5.out
              rw [hspl] at h9
              exact h9)
            have HB5 := Lib.hid hb5
            have HCC := Lib.hid (checkCounts_any w5 g4 (nine ns) HNN.out HN5.out HNL9.out)
            have hsz1 : (strB t1).size = t1.length := strB_size t1
            have hwr : IntKind.i64.wrap ((t1.length : Int) + 1) = ((s.length - t2.length : Nat) : Int) := by have := HLEN.out; rw [IntKind.wrap_i64]; omega
            clear hn5 hb5
            go_upto_region 9 with (go_at_call 49; refine HCC.out.mono ?_; rintro e w6 ⟨hb6, he⟩; have he2 : e = .returned (.tuple #[]) := (he.resolve_left (fun h => by rw [HBC.out] at h; cases h.1)).2; subst he2; have HB6 := Lib.hid (bt HB5.out (Nat.le_refl _) hb6); have HN6 : Hid (Nums w6 g4 (intsA (nine ns))) := Lib.hid (Blk.below HN5.out hb6 (Blk.lt HN5.out)); clear hb6 he)
            go_wp2_with (go_at_call 50; refine (HCLN.out _).mono ?_; rintro e w7 ⟨rfl, hb7⟩; have HB7 := Lib.hid (bt HB6.out (Nat.le_refl _) hb7); have HN7 : Hid (Nums w7 g4 (intsA (nine ns))) := Lib.hid (Blk.below HN6.out hb7 (Blk.lt HN6.out)); clear hb7)
            go_ret3
            refine ⟨HB7.out, ?_⟩
            rw [HE2.out]
            exact ⟨g4, rfl, HG4.out, HN7.out⟩
    · have HE := Lib.hid (h1 hw)
      have y1 : ((strB l1).toList == [97, 97, 103]) = false := by rw [z1]; simpa using fun h => hw (.inl h)
      have y3 : ((strB l1).toList != [97, 97, 103]) = true := by rw [bne, y1]; rfl
      have y2 : ((strB l1).toList == [97, 105, 103]) = false := by rw [z2]; simpa using fun h => hw (.inr h)
      have y4 : ((strB l1).toList != [97, 105, 103]) = true := by rw [bne, y2]; rfl
      clear z1 z2 hw h1 h2 h3 hl
      cases hn : numbersA 5 9 l2 with
      | none =>
        rw [hn] at HNO
        clear hn
        go_enter Tryd.func23, Tryd.ntmps23
        go_upto_region 2 with (go_at_call 47; refine HC1.out.mono ?_; rintro e w1 ⟨rfl, n1, hw1⟩; have HB1 : Hid (Below w.heap.size w w1) := Lib.hid (by rw [hw1]; exact below_drewN (Below.refl _ _) n1); clear hw1)
        go_upto_region 3 with (go_at_call 47; refine (HC2.out w1 HB1.out).mono ?_; rintro e w2 ⟨rfl, n2, hw2⟩; have HB2 : Hid (Below w.heap.size w w2) := Lib.hid (by rw [hw2]; exact below_drewN HB1.out n2); clear hw2)
        go_upto_region 4 with (go_at_call 48; refine (HNO.out w2 HB2.out).mono ?_; rintro e w3 ⟨hb, he⟩; have he2 : e = .returned (.tuple #[.slice none 0 0, .bool false]) := he; subst he2; have HB3 := Lib.hid (bt HB2.out (Nat.le_refl _) hb); clear hb he)
        go_wp2_with (go_at_call 27; refine (HGU.out _).mono ?_; rintro e w6 ⟨rfl, rfl⟩)
        exact ⟨rfl, HB3.out, by rw [HE.out]; rfl⟩
      | some ns =>
        rw [hn] at HNO
        clear hn
        go_enter Tryd.func23, Tryd.ntmps23
        go_upto_region 2 with (go_at_call 47; refine HC1.out.mono ?_; rintro e w1 ⟨rfl, n1, hw1⟩; have HB1 : Hid (Below w.heap.size w w1) := Lib.hid (by rw [hw1]; exact below_drewN (Below.refl _ _) n1); clear hw1)
        go_upto_region 3 with (go_at_call 47; refine (HC2.out w1 HB1.out).mono ?_; rintro e w2 ⟨rfl, n2, hw2⟩; have HB2 : Hid (Below w.heap.size w w2) := Lib.hid (by rw [hw2]; exact below_drewN HB1.out n2); clear hw2)
        go_upto_region 4 with (go_at_call 48; refine (HNO.out w2 HB2.out).mono ?_; rintro e w3 ⟨hb, he⟩; obtain ⟨g3, rfl, hg3, hn3⟩ := he; have HB3 := Lib.hid (bt HB2.out (Nat.le_refl _) hb); have HN3 := Lib.hid hn3; have HG3 : Hid (w.heap.size ≤ g3) := Lib.hid (Nat.le_trans HB2.out.size hg3); clear hb hn3 hg3)
        go_wp2_with (go_at_call 27; refine (HGU.out _).mono ?_; rintro e w6 ⟨rfl, rfl⟩)
        exact ⟨rfl, HB3.out, by rw [HE.out]; rfl⟩
end Go.Proofs.YtkkolefhfmlhfabDoor

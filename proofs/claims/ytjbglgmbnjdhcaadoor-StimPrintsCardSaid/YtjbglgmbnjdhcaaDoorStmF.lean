/- Stim: the reader: whether something is left, the next line, the fault of a line. -/
import Derived.Test.YtjbglgmbnjdhcaaDoorStmC
import Derived.Test.YtjbglgmbnjdhcaaDoorSimN
import Derived.Lib.OthersKept
import Derived.Test.YtjbglgmbnjdhcaaDoorAppF
namespace Go.Proofs.YtjbglgmbnjdhcaaDoor
open Go.RowKit

def digB (c : UInt8) : Prop := c = 48 ∨ c = 49 ∨ c = 120
/-- The truths of the first k bytes, and falses behind. -/
def rowF (l : Bs) (k n : Nat) : List Bool := (l.take k).map (· == 49) ++ List.replicate (n - k) false
theorem rowF_zero (l : Bs) (n : Nat) : rowF l 0 n = List.replicate n false := by simp [rowF]
theorem rowF_at {l : Bs} {k n : Nat} (h : l.length = n) (hk : k < n) : (rowF l k n)[k]? = some false := by
  unfold rowF
  have e : (List.map (fun x => x == 49) (List.take k l)).length = k := by simp; omega
  rw [List.getElem?_append_right (by omega), e, Nat.sub_self, List.getElem?_replicate, if_pos (by omega)]
theorem rowF_end {l : Bs} {n : Nat} (h : l.length = n) : rowF l n n = l.map (· == 49) := by simp [rowF, ← h]
theorem rowF_yes {l : Bs} {k n : Nat} (h : l.length = n) (hk : l[k]? = some 49) : (rowF l k n).set k true = rowF l (k + 1) n := by
  have hlt : k < l.length := (List.getElem?_eq_some_iff.1 hk).1
  unfold rowF
  rw [List.take_add_one, hk, List.map_append, List.set_append_right _ _ (by simp; omega), show n - k = (n - (k + 1)) + 1 by omega, List.replicate_succ]
  have e : k - (List.map (fun x => x == 49) (List.take k l)).length = 0 := by simp; omega
  rw [e]
  simp
theorem rowF_no {l : Bs} {k n : Nat} {c : UInt8} (h : l.length = n) (hk : l[k]? = some c) (hc : c ≠ 49) : rowF l (k + 1) n = rowF l k n := by
  have hlt : k < l.length := (List.getElem?_eq_some_iff.1 hk).1
  unfold rowF
  rw [List.take_add_one, hk, List.map_append, show n - k = (n - (k + 1)) + 1 by omega, List.replicate_succ]
  have : (c == 49) = false := by simpa using hc
  simp [this]
set_option maxHeartbeats 4000000 in
set_option maxRecDepth 100000 in
theorem rowOf_any (w : World) (l : Bs) (n : Nat) (hn : n ≤ 16384) (hl : l.length ≤ 262144) :
    Calls Tryd.prog 50 #[.string (strB l), .int .i64 (n : Int)] w fun e w' => Below w.heap.size w w' ∧ ∃ v, e = .returned (.tuple #[v, .bool (rowB n l).isSome]) ∧ (rowB n l = none → v = .slice none 0 0) ∧ ∀ r, rowB n l = some r → w'.ownsRow w.heap.size 4 1 v r.length (r.map Value.bool) := by
  have hsz : (strB l).size = l.length := strB_size l
  by_cases hln : l.length = n
  · rw [hln] at hsz
    have hmk := make_bools n (by omega)
    have hb0 : Below w.heap.size w ((w.alloc (.cells (madeCells #[Value.bool false] n) 4)).alloc (.stringIter (strB l) 0)) := ((Below.refl _ _).alloc (Nat.le_refl _) _).alloc (by simp) _
    have HB0 := Lib.hid hb0
    have HT0 : Hid (Tab ((w.alloc (.cells (madeCells #[Value.bool false] n) 4)).alloc (.stringIter (strB l) 0)) w.heap.size (rowF l 0 n)) := Lib.hid (by
      rw [rowF_zero]
      unfold Tab
      rw [← made_bools]
      exact (Blk.new w _ _).alloc _)
    have HI0 : Hid (((w.alloc (.cells (madeCells #[Value.bool false] n) 4)).alloc (.stringIter (strB l) 0)).heap[w.heap.size + 1]? = some (.stringIter (strB l) 0)) := Lib.hid (by
      have := heap_alloc2_new w (.cells (madeCells #[Value.bool false] n) 4) (.stringIter (strB l) 0)
      exact this)
    obtain ⟨rb, hrb⟩ : ∃ x, rowB n l = x := ⟨_, rfl⟩
    rw [hrb]
    have HRB : Hid (((∀ c ∈ l, digB c) → rb = some (l.map (· == 49))) ∧ ((∃ c ∈ l, ¬ digB c) → rb = none)) := Lib.hid (by
      rw [← hrb]
      unfold rowB
      constructor
      · intro h; rw [if_pos ⟨hln, h⟩]
      · rintro ⟨c, hc, hd⟩; rw [if_neg (fun hh => hd (hh.2 c hc))])
    have HLN := Lib.hid hln
    clear hrb hb0 hln
    go_enter Tryd.func50, Tryd.ntmps50
    go_wp2
    go_loopg [7] n (fun j _ wx => ∃ k : Nat, k ≤ n ∧ j = n - k ∧ wx.heap[w.heap.size + 1]? = some (.stringIter (strB l) k) ∧ Tab wx w.heap.size (rowF l k n) ∧ (∀ c ∈ l.take k, digB c) ∧ Below w.heap.size w wx)
    case atStart => exact ⟨0, Nat.zero_le _, rfl, HI0.out, HT0.out, by simp, HB0.out⟩
    case round =>
      obtain ⟨k, hk, hgk, hit, htb, hdg, hbw⟩ := hrel
      subst hgk
      have HIT := Lib.hid hit
      have HTB := Lib.hid htb
      have HDG := Lib.hid hdg
      have HBW := Lib.hid hbw
      clear hit htb hdg hbw
      by_cases hlt : k < n
      · obtain ⟨c, hc⟩ : ∃ c, l[k]? = some c := ⟨_, List.getElem?_eq_getElem (by rw [HLN.out]; exact hlt)⟩
        have hs : k < (strB l).size := by rw [hsz]; exact hlt
        have hx : (strB l)[k]'hs = c := by
          have h1 := Lib.data_getElem? (strB l) k hs
          rw [strB_list, hc] at h1
          injection h1 with h1
          exact h1.symm
        have HC := Lib.hid hc
        have hk0 : (0 : Int) ≤ (k : Int) := by omega
        have hk1 : (k : Int) < (n : Int) := by omega
        clear hc
        by_cases hd : digB c
        · have ha : ((strB l)[k]'hs).toNat < 128 := by rw [hx]; rcases hd with rfl | rfl | rfl <;> decide
          have hnx := fun ty => Lib.run_next_ascii_at (P := Tryd.prog) wr (w.heap.size + 1) (strB l) k ty HIT.out hs ha
          rw [hx] at hnx
          obtain ⟨W2, hW2⟩ : ∃ W2, wr.iterAt (w.heap.size + 1) (strB l) (k + 1) = W2 := ⟨_, rfl⟩
          have HI2 : Hid (W2.heap[w.heap.size + 1]? = some (.stringIter (strB l) (k + 1))) := Lib.hid (by rw [← hW2]; exact Lib.iterAt_heap _ _ _ _ _ HIT.out)
          have HTB2 : Hid (Tab W2 w.heap.size (rowF l k n)) := Lib.hid (by
            rw [← hW2]
            exact (Lib.iterAt_other _ _ _ _ _ (by omega)).trans HTB.out)
          have HB2 : Hid (Below w.heap.size w W2) := Lib.hid (by rw [← hW2]; exact Lib.below_iterAt HBW.out (by omega) _ _)
          rw [hW2] at hnx
          clear hW2 ha hx
          rcases hd with h48 | h49 | h120
          · subst h48
            have hr : ((48 : UInt8).toNat : Int) = 48 := by decide
            rw [hr] at hnx
            have HD2 : Hid (∀ c ∈ l.take (k + 1), digB c) := Lib.hid (by
              intro d hd
              rw [List.take_add_one, HC.out] at hd
              rcases List.mem_append.1 hd with hd | hd
              · exact HDG.out d hd
              · simp only [Option.toList_some, List.mem_singleton] at hd
                rw [hd]
                exact .inl rfl)
            clear hr
            have HTB3 := HTB2
            rw [← rowF_no HLN.out HC.out (show (48 : UInt8) ≠ 49 by decide)] at HTB3
            go_wp2
            go_roundg (n - (k + 1))
            case measure => omega
            case rel => first
              | exact ⟨k + 1, by omega, rfl, HI2.out, HTB3.out, HD2.out, HB2.out⟩
              | ((repeat apply Exists.intro); exact ⟨⟨k + 1, by omega, rfl, HI2.out, HTB3.out, HD2.out, HB2.out⟩, rfl⟩)
          · subst h49
            have hr : ((49 : UInt8).toNat : Int) = 49 := by decide
            rw [hr] at hnx
            have HD2 : Hid (∀ c ∈ l.take (k + 1), digB c) := Lib.hid (by
              intro d hd
              rw [List.take_add_one, HC.out] at hd
              rcases List.mem_append.1 hd with hd | hd
              · exact HDG.out d hd
              · simp only [Option.toList_some, List.mem_singleton] at hd
                rw [hd]
                exact .inr (.inl rfl))
            clear hr
            have h0 : W2.cell? ⟨w.heap.size, k, none⟩ = some (.bool false) := HTB2.out.cell (rowF_at HLN.out hlt)
            have hfz : W2.frozen? ⟨w.heap.size, k, none⟩ = false := Blk.frozen HTB2.out k
            have HTB3 := Lib.hid (HTB2.out.set_ k true)
            rw [rowF_yes HLN.out HC.out] at HTB3
            have HB3 : Hid (Below w.heap.size w (W2.setCell ⟨w.heap.size, k, none⟩ (.bool true))) := Lib.hid (HB2.out.setCell (Nat.le_refl _) _)
            have HI3 : Hid ((W2.setCell ⟨w.heap.size, k, none⟩ (.bool true)).heap[w.heap.size + 1]? = some (.stringIter (strB l) (k + 1))) := Lib.hid (by
              rw [Below.heap_setCell _ _ _ _ (by simp)]
              exact HI2.out)
            go_wp2
            go_roundg (n - (k + 1))
            case measure => omega
            case rel => first
              | exact ⟨k + 1, by omega, rfl, HI3.out, HTB3.out, HD2.out, HB3.out⟩
              | ((repeat apply Exists.intro); exact ⟨⟨k + 1, by omega, rfl, HI3.out, HTB3.out, HD2.out, HB3.out⟩, rfl⟩)
          · subst h120
            have hr : ((120 : UInt8).toNat : Int) = 120 := by decide
            rw [hr] at hnx
            have HD2 : Hid (∀ c ∈ l.take (k + 1), digB c) := Lib.hid (by
              intro d hd
              rw [List.take_add_one, HC.out] at hd
              rcases List.mem_append.1 hd with hd | hd
              · exact HDG.out d hd
              · simp only [Option.toList_some, List.mem_singleton] at hd
                rw [hd]
                exact .inr (.inr rfl))
            clear hr
            have HTB3 := HTB2
            rw [← rowF_no HLN.out HC.out (show (120 : UInt8) ≠ 49 by decide)] at HTB3
            go_wp2
            go_roundg (n - (k + 1))
            case measure => omega
            case rel => first
              | exact ⟨k + 1, by omega, rfl, HI2.out, HTB3.out, HD2.out, HB2.out⟩
              | ((repeat apply Exists.intro); exact ⟨⟨k + 1, by omega, rfl, HI2.out, HTB3.out, HD2.out, HB2.out⟩, rfl⟩)
        · have hnx : ∃ (r : Int) (p : Nat), (r ≠ 48 ∧ r ≠ 49 ∧ r ≠ 120) ∧ ∀ ty, (Instr.next (.pointer (some ⟨w.heap.size + 1, 0, none⟩)) true ty).run Tryd.prog wr = .ok (.tuple #[.bool true, .int .i64 k, .int .i32 r]) (wr.iterAt (w.heap.size + 1) (strB l) p) := by
            by_cases ha : c.toNat < 128
            · refine ⟨(c.toNat : Int), k + 1, ?_, fun ty => ?_⟩
              · refine ⟨fun e => hd (.inl ?_), fun e => hd (.inr (.inl ?_)), fun e => hd (.inr (.inr ?_))⟩
                all_goals exact UInt8.toNat_inj.1 (by simpa using (by omega : c.toNat = _))
              · have := Lib.run_next_ascii_at (P := Tryd.prog) wr (w.heap.size + 1) (strB l) k ty HIT.out hs (by rw [hx]; exact ha)
                rw [hx] at this
                exact this
            · have h2 := (decode_high (strB l) k hs (by rw [hx]; omega)).1
              exact ⟨((Utf8.decode (strB l) k).1 : Int), _, ⟨by omega, by omega, by omega⟩, fun ty => Lib.run_next_any_at (P := Tryd.prog) wr (w.heap.size + 1) (strB l) k ty HIT.out hs⟩
          obtain ⟨r, p, ⟨r1, r2, r3⟩, hnx⟩ := hnx
          have HB2 : Hid (Below w.heap.size w (wr.iterAt (w.heap.size + 1) (strB l) p)) := Lib.hid (Lib.below_iterAt HBW.out (by omega) _ _)
          have HN : Hid (rb = none) := Lib.hid (HRB.out.2 ⟨c, List.mem_of_getElem? HC.out, hd⟩)
          generalize wr.iterAt (w.heap.size + 1) (strB l) p = W2 at hnx HB2
          have q1 : (r == (48 : Int)) = false := by simpa using r1
          have q2 : (r == (49 : Int)) = false := by simpa using r2
          have q3 : (r == (120 : Int)) = false := by simpa using r3
          clear hd hx
          go_wp2
          go_ret2
          exact ⟨HB2.out, _, by rw [HN.out]; rfl, fun _ => rfl, fun r hr => by rw [HN.out] at hr; cases hr⟩
      · have hs : ¬ k < (strB l).size := by rw [hsz]; exact hlt
        have hnx := fun ty => Lib.run_next_end_at (P := Tryd.prog) wr (w.heap.size + 1) (strB l) k ty HIT.out hs
        have hkn : k = n := by omega
        have HALL : Hid (rb = some (l.map (· == 49))) := Lib.hid (HRB.out.1 (fun c hc => HDG.out c (by rw [List.take_of_length_le (by rw [HLN.out]; omega)]; exact hc)))
        have HOW : Hid (wr.ownsRow w.heap.size 4 1 (.slice (some ⟨w.heap.size, 0, none⟩) n n) n ((l.map (· == 49)).map Value.bool)) := Lib.hid (by
          have h1 := HTB.out
          rw [hkn, rowF_end HLN.out] at h1
          have h2 := tab_ownO h1 (Nat.le_refl _) (by simp [maxLen]; omega)
          simp only [List.length_map, HLN.out] at h2
          exact h2)
        clear hkn
        go_wp2
        go_ret2
        refine ⟨HBW.out, _, by rw [HALL.out]; rfl, fun h => (by rw [HALL.out] at h; cases h), fun r hr => ?_⟩
        rw [HALL.out] at hr
        injection hr with hr
        subst hr
        simp only [List.length_map, HLN.out]
        exact HOW.out
  · have hne : ((l.length : Int) != (n : Int)) = true := by simp; omega
    have HN : Hid (rowB n l = none) := Lib.hid (by unfold rowB; rw [if_neg (fun h => hln h.1)])
    have hne2 : ¬ (l.length : Int) = (n : Int) := by omega
    go_enter Tryd.func50, Tryd.ntmps50
    go_wp2
    go_ret2
    exact ⟨Below.refl _ _, _, by rw [HN.out]; rfl, fun _ => rfl, fun r hr => by rw [HN.out] at hr; cases hr⟩
end Go.Proofs.YtjbglgmbnjdhcaaDoor

namespace Go.Proofs.YtjbglgmbnjdhcaaDoor
open Go.RowKit Go.Maps

def PrP (w : World) (g : Nat) (L : List (Int × Int)) : Prop := Blk w g 57 (L.flatMap encPp).toArray
theorem PrP.cell {w : World} {g : Nat} {L : List (Int × Int)} (h : PrP w g L) {i : Nat} {p : Int × Int} (hx : L[i]? = some p) : w.cell? ⟨g, i * 2, none⟩ = some (.int .u8 p.1) ∧ w.cell? ⟨g, i * 2 + 1, none⟩ = some (.int .i64 p.2) := by
  have h0 := flat_get (enc := encPp) (k := 2) lenPp L i p hx 0 (by omega)
  have h1 := flat_get (enc := encPp) (k := 2) lenPp L i p hx 1 (by omega)
  rw [Blk.cell h, Blk.cell h]
  simp only [Nat.add_zero] at h0
  exact ⟨by rw [List.getElem?_toArray, h0]; rfl, by rw [List.getElem?_toArray, h1]; rfl⟩
theorem flat_setP {L : List (Int × Int)} {i : Nat} {p : Int × Int} (h : i < L.length) : ((L.flatMap encPp).set (i * 2) (.int .u8 p.1)).set (i * 2 + 1) (.int .i64 p.2) = (L.set i p).flatMap encPp := by
  induction L generalizing i with
  | nil => simp at h
  | cons a r ih =>
    cases i with
    | zero => rfl
    | succ i =>
      have := ih (i := i) (by simpa using h)
      rw [List.set_cons_succ, List.flatMap_cons, List.flatMap_cons, ← this]
      obtain ⟨a1, a2⟩ := a
      simp [encPp, Nat.succ_mul]
theorem PrP.set_ {w : World} {g : Nat} {L : List (Int × Int)} (h : PrP w g L) {i : Nat} (hi : i < L.length) (p : Int × Int) : PrP ((w.setCell ⟨g, i * 2, none⟩ (.int .u8 p.1)).setCell ⟨g, i * 2 + 1, none⟩ (.int .i64 p.2)) g (L.set i p) := by
  have := Blk.set_ (Blk.set_ h (i * 2) (.int .u8 p.1)) (i * 2 + 1) (.int .i64 p.2)
  unfold PrP
  rw [← flat_setP hi]
  simpa using this
theorem PrP.below {w w' : World} {g : Nat} {L : List (Int × Int)} (h : PrP w g L) (hb : Below w.heap.size w w') : PrP w' g L := Blk.below h hb (Blk.lt h)
theorem PrP.own {w : World} {B g : Nat} {L : List (Int × Int)} (h : PrP w g L) (hB : B ≤ g) (hm : L.length ≤ maxLen) : w.ownsRow B 57 2 (.slice (some ⟨g, 0, none⟩) L.length L.length) L.length (L.flatMap encPp) := by
  have hl : (L.flatMap encPp).length = L.length * 2 := by
    clear h hm
    induction L with
    | nil => rfl
    | cons a r ih => rw [List.flatMap_cons, List.length_append, ih, lenPp]; simp; omega
  exact ⟨hl, .inr ⟨g, L.length, _, rfl, hB, h, Nat.le_refl _, hm, by simpa using hl, by rw [List.take_of_length_le (by simp [hl])]⟩⟩
theorem made_props (n : Nat) : madeCells #[Value.int .u8 0, Value.int .i64 0] (n * 2) = ((List.replicate n ((0 : Int), (0 : Int))).flatMap encPp).toArray := by
  apply Array.ext_getElem?
  intro j
  rw [List.getElem?_toArray (xs := List.flatMap _ _)]
  by_cases hj : j < n * 2
  · have hx : (List.replicate n ((0 : Int), (0 : Int)))[j / 2]? = some (0, 0) := by rw [List.getElem?_replicate, if_pos (by omega)]
    have h0 := flat_get (enc := encPp) (k := 2) lenPp _ (j / 2) (0, 0) hx (j % 2) (by omega)
    rw [show j / 2 * 2 + j % 2 = j by omega] at h0
    rw [h0]
    have h2 : j % 2 = 0 ∨ j % 2 = 1 := by omega
    rcases h2 with h2 | h2 <;> simp [madeCells, hj, h2, encPp]
  · have hl : ((List.replicate n ((0 : Int), (0 : Int))).flatMap encPp).length = n * 2 := by
      clear hj
      induction n with
      | zero => rfl
      | succ n ih => rw [List.replicate_succ, List.flatMap_cons, List.length_append, ih, lenPp]; omega
    rw [List.getElem?_eq_none (l := List.flatMap _ _) (by omega), Array.getElem?_eq_none (by rw [size_madeCells]; omega)]
theorem new_props (w : World) (n : Nat) : PrP (w.alloc (.cells (madeCells #[Value.int .u8 0, Value.int .i64 0] (n * 2)) 57)) w.heap.size (List.replicate n (0, 0)) := by
  unfold PrP; rw [← made_props]; exact Blk.new _ _ _
theorem prop_info : (Tryd.prog.info? 57).map (fun i => (i.zero, i.size, i.bytes)) = some (some (.agg #[.int .u8 0, .int .i64 0]), 2, 16) := by kernel_rfl
theorem make_props (n : Nat) (h : n ≤ 1000000) (wx : World) : (Instr.makeSlice 22 (.int .i64 (n : Int)) (.int .i64 (n : Int))).run Tryd.prog wx = .ok (.slice (some ⟨wx.heap.size, 0, none⟩) n n) (wx.alloc (.cells (madeCells #[Value.int .u8 0, Value.int .i64 0] (n * 2)) 57)) := by
  obtain ⟨i0, hi0, hz0, hz1, hz2⟩ := info_of' prop_info
  have := run_make (P := Tryd.prog) wx 22 57 i0 (.agg #[.int .u8 0, .int .i64 0]) Tryd.underlying22 hi0 hz0 .i64 .i64 n n (by omega) (by omega) (by rw [hz2]; omega) (by omega)
  rw [hz1] at this
  simpa [Value.cells] using this
theorem wordsB_app : ∀ {xs : List Bs} {x : Bs} {qs : List (Int × Int)} {p : Int × Int}, wordsB xs = some qs → propB x = some p → wordsB (xs ++ [x]) = some (qs ++ [p])
  | [], x, qs, p, h, hp => by
    injection h with h
    subst h
    simp [wordsB, hp]
  | y :: r, x, qs, p, h, hp => by
    simp only [List.cons_append, wordsB] at h ⊢
    split at h
    · cases h
    · rename_i q hq
      obtain ⟨t, h1, h2⟩ := Option.map_eq_some_iff.1 h
      subst h2
      rw [wordsB_app h1 hp]
      rfl
theorem wordsB_none : ∀ {xs : List Bs} {x : Bs}, x ∈ xs → propB x = none → wordsB xs = none
  | [], _, h, _ => by simp at h
  | y :: r, x, h, hx => by
    unfold wordsB
    rcases List.mem_cons.1 h with rfl | h
    · rw [hx]
    · split
      · rfl
      · rw [wordsB_none h hx]; rfl
theorem propB_wf {x : Bs} {p : Int × Int} (h : propB x = some p) : (0 ≤ p.1 ∧ p.1 ≤ 255) ∧ I64 p.2 := by
  cases x with
  | nil => cases h
  | cons k r =>
    unfold propB at h
    obtain ⟨n, h1, h2⟩ := Option.map_eq_some_iff.1 h
    obtain ⟨h3, _⟩ := numB_some h1
    subst h2
    have := k.toNat_lt
    unfold I64
    simp only
    omega
theorem wordsB_wf : ∀ {xs : List Bs} {qs : List (Int × Int)}, wordsB xs = some qs → ∀ p ∈ qs, (0 ≤ p.1 ∧ p.1 ≤ 255) ∧ I64 p.2
  | [], qs, h, p, hp => by injection h with h; subst h; simp at hp
  | y :: r, qs, h, p, hp => by
    unfold wordsB at h
    split at h
    · cases h
    · rename_i q hq
      obtain ⟨t, h1, h2⟩ := Option.map_eq_some_iff.1 h
      subst h2
      rcases List.mem_cons.1 hp with rfl | hp
      · exact propB_wf hq
      · exact wordsB_wf h1 p hp
theorem pieces_map (l : Bs) : Lib.splitB (strB [32]) 0 (min 16385 ((strB l).size + 1) - 1) (strB l) = (piecesB l).map strB := by
  have h := Lib.splitB_data (strB [32]) 0 (min 16385 ((strB l).size + 1) - 1) (strB l)
  rw [strB_list, strB_list, strB_size] at h
  unfold piecesB
  rw [strB_size, ← h, List.map_map]
  conv => lhs; rw [← List.map_id (Lib.splitB (strB [32]) 0 (min 16385 (l.length + 1) - 1) (strB l))]
  exact List.map_congr_left fun s _ => (strB_of s).symm
theorem pieces_le (l : Bs) : (piecesB l).length ≤ min 16385 (l.length + 1) := by
  have h := Lib.splitB_length_le (strB [32]) 0 (min 16385 ((strB l).size + 1) - 1) (strB l)
  rw [pieces_map, strB_size] at h
  simp only [List.length_map] at h
  omega
theorem piece_len (l : Bs) : ∀ x ∈ piecesB l, x.length ≤ l.length := by
  intro x hx
  have h : x.length ≤ (Lib.join (piecesB l) [32]).length := by
    generalize piecesB l = pl at hx ⊢
    induction pl with
    | nil => simp at hx
    | cons y r ih =>
      cases r with
      | nil =>
        simp only [List.mem_singleton] at hx
        rw [hx, Lib.join_one]
        exact Nat.le_refl _
      | cons z r =>
        rw [join_two]
        simp only [List.length_append]
        rcases List.mem_cons.1 hx with rfl | hx
        · omega
        · have := ih hx; omega
  unfold piecesB at h
  rw [join_splitK] at h
  exact h
theorem newRowS (w : World) (old new : Array Value) (t : TypeId) : Below w.heap.size w ((w.alloc (.cells old t)).setRow w.heap.size new) ∧ ((w.alloc (.cells old t)).setRow w.heap.size new).heap[w.heap.size]? = some (.cells new t (0, 0)) ∧ ((w.alloc (.cells old t)).setRow w.heap.size new).heap.size = w.heap.size + 1 := by
  have h1 : Below w.heap.size w (w.alloc (.cells old t)) := (Below.refl _ _).alloc (Nat.le_refl _) _
  have h2 : (w.alloc (.cells old t)).heap[w.heap.size]? = some (.cells old t (0, 0)) := Blk.new w t old
  exact ⟨⟨h1.os, h1.tape, h1.output, by rw [size_setRow]; exact h1.size, fun k hk => (setRow_other _ _ _ _ (by omega)).trans (h1.block k hk)⟩, setRow_heap _ _ _ _ _ _ h2, by rw [size_setRow]; simp⟩
set_option maxHeartbeats 4000000 in
set_option maxRecDepth 100000 in
theorem propsOf_any (w : World) (B : Nat) (l : Bs) (hl : l.length ≤ 262144) (lib : LibB B w) (hB : B ≤ w.heap.size) : Calls Tryd.prog 39 #[.string (strB l)] w fun e w' => Below w.heap.size w w' ∧ ∃ v, e = .returned (.tuple #[v, .bool (propsB l).isSome]) ∧ ∀ ps, propsB l = some ps → w'.ownsRow w.heap.size 57 2 v ps.length (ps.flatMap encPp) := by
  obtain ⟨mx, hmx⟩ := lib.here.max
  have hspl := Tryd.strings_SplitN (strB l) (strB [32]) 16385 mx w (by rw [strB_size]; omega) hmx (by rw [strB_size]; simp) (by omega) (by omega)
  obtain ⟨P, hP⟩ : ∃ P, piecesB l = P := ⟨_, rfl⟩
  have hpl := pieces_le l
  have hpx := piece_len l
  rw [pieces_map, strB_size, hP, List.length_map] at hspl
  rw [hP] at hpl hpx
  obtain ⟨N, hN⟩ : ∃ N, min 16385 (l.length + 1) = N := ⟨_, rfl⟩
  rw [hN] at hspl hpl
  have HSPL : Hid (Calls Tryd.prog 48 #[.string (strB l), .string ⟨#[32]⟩, .int .i64 16385] w fun e w' => e = .returned (.slice (some ⟨w.heap.size, 0, none⟩) P.length N) ∧ w' = w.alloc (.cells (Lib.cellsOf (P.map strB) N) 9)) := Lib.hid hspl
  obtain ⟨pb, hpb⟩ : ∃ x, propsB l = x := ⟨_, rfl⟩
  rw [hpb]
  have HPB : Hid (pb = (if 16384 < P.length then none else match wordsB P with | none => none | some ps => if okPs ps = true then some ps else none)) := Lib.hid (by rw [← hpb, ← hP]; rfl)
  have hb1 : Below w.heap.size w (w.alloc (.cells (Lib.cellsOf (P.map strB) N) 9)) := (Below.refl _ _).alloc (Nat.le_refl _) _
  have HB1 := Lib.hid hb1
  have hblk1 := Blk.new w 9 (Lib.cellsOf (P.map strB) N)
  have HCEL : Hid (∀ (i : Nat) (x : Bs), P[i]? = some x → (Lib.cellsOf (P.map strB) N)[i]? = some (.string (strB x))) := Lib.hid (fun i x hx => by
    have hi := (List.getElem?_eq_some_iff.1 hx).1
    unfold Lib.cellsOf
    rw [List.getElem?_toArray, List.getElem?_append_left (by simpa using hi), List.getElem?_map, List.getElem?_map, hx]
    rfl)
  obtain ⟨m, hm⟩ : ∃ m, P.length = m := ⟨_, rfl⟩
  have HM := Lib.hid hm
  have HPX := Lib.hid hpx
  rw [hm] at HSPL HPB hpl
  have hm2 : m ≤ 16385 := by omega
  clear hspl hmx hpb hP hm hpx
  go_enter Tryd.func39, Tryd.ntmps39
  go_upto_region 2 with (go_at_call 48; refine HSPL.out.mono ?_; rintro e w1 ⟨rfl, hw1⟩; have HW1 := Lib.hid hw1; clear hw1)
  rw [← HW1.out] at hb1 hblk1 HB1
  have HBK1 := Lib.hid hblk1
  have HL0 := Lib.hid lib
  clear HW1 hb1 hblk1 lib
  by_cases hbig : (16384 : Int) < (m : Int)
  · have HN : Hid (pb = none) := Lib.hid (by rw [HPB.out, if_pos (by omega)])
    go_wp2
    go_ret2
    exact ⟨HB1.out, _, by rw [HN.out]; rfl, fun ps hps => by rw [HN.out] at hps; cases hps⟩
  · have HPB2 : Hid (pb = match wordsB P with | none => none | some ps => if okPs ps = true then some ps else none) := Lib.hid (by rw [HPB.out, if_neg (by omega)])
    have hmk := make_props m (by omega)
    have hm3 : m ≤ 16384 := by omega
    have HB2 : Hid (Below w.heap.size w (w1.alloc (.cells (madeCells #[Value.int .u8 0, Value.int .i64 0] (m * 2)) 57))) := Lib.hid (HB1.out.alloc HB1.out.size _)
    have HP2 : Hid (PrP (w1.alloc (.cells (madeCells #[Value.int .u8 0, Value.int .i64 0] (m * 2)) 57)) w1.heap.size (List.replicate m (0, 0))) := Lib.hid (new_props w1 m)
    have HK2 : Hid (Blk (w1.alloc (.cells (madeCells #[Value.int .u8 0, Value.int .i64 0] (m * 2)) 57)) w.heap.size 9 (Lib.cellsOf (P.map strB) N)) := Lib.hid (HBK1.out.alloc _)
    have HSZ : Hid (w.heap.size ≤ w1.heap.size ∧ w.heap.size ≠ w1.heap.size) := Lib.hid ⟨HB1.out.size, fun e => by have := Blk.lt HBK1.out; omega⟩
    clear hbig
    go_wp2
    generalize w1.alloc (.cells (madeCells #[Value.int .u8 0, Value.int .i64 0] (m * 2)) 57) = W2 at HB2 HP2 HK2 ⊢
    go_loopg [20] m (fun j iv wx => ∃ (k : Nat) (qs : List (Int × Int)), k ≤ m ∧ j = m - k ∧ iv = .int .i64 k ∧ qs.length = k ∧ wordsB (P.take k) = some qs ∧ PrP wx w1.heap.size (qs ++ List.replicate (m - k) (0, 0)) ∧ Blk wx w.heap.size 9 (Lib.cellsOf (P.map strB) N) ∧ Below w.heap.size w wx)
    case atStart => exact ⟨0, [], Nat.zero_le _, rfl, rfl, rfl, rfl, HP2.out, HK2.out, HB2.out⟩
    case round =>
      obtain ⟨k, qs, hk, hgk, rfl, hql, hwd, hpr, hbk, hbw⟩ := hrel
      subst hgk
      have HQL := Lib.hid hql
      have HWD := Lib.hid hwd
      have HPR := Lib.hid hpr
      have HBK := Lib.hid hbk
      have HBW := Lib.hid hbw
      clear hql hwd hpr hbk hbw
      by_cases hlt : k < m
      · obtain ⟨x, hx⟩ : ∃ x, P[k]? = some x := ⟨_, List.getElem?_eq_getElem (by rw [HM.out]; exact hlt)⟩
        have d0 : wr.cell? ⟨w.heap.size, k, none⟩ = some (.string (strB x)) := by
          rw [Blk.cell HBK.out]
          exact HCEL.out k x hx
        have HPO := Lib.hid (propOf_any wr B x (by have := HPX.out x (List.mem_of_getElem? hx); omega) (HL0.out.up hB HBW.out) (Nat.le_trans hB HBW.out.size))
        have HX := Lib.hid hx
        have hk0 : (0 : Int) ≤ (k : Int) := by omega
        have hk1 : (k : Int) < (m : Int) := by omega
        clear hx
        cases hpb : propB x with
        | none =>
          have HN : Hid (pb = none) := Lib.hid (by rw [HPB2.out, wordsB_none (List.mem_of_getElem? HX.out) hpb])
          rw [hpb] at HPO
          clear hpb
          go_upto_region 9 with (first
            | (go_at_call 49; refine HPO.out.mono ?_; rintro e w4 ⟨hb, q, rfl, _⟩; have HB4 := Lib.hid (bt HBW.out (Nat.le_refl _) hb); have HN4 := Lib.hid (Blk.new w4 57 #[.int .u8 0, .int .i64 0]); clear hb d0)
            | (refine wpList_store_row rfl 57 (.tmp 8) (.tmp 28) rfl w4.heap.size #[.int .u8 q.1, .int .i64 q.2] rfl rfl 57 _ HN4.out (by kernel_rfl) rfl (by simp [Value.oneCell']) ?_))
          have HB5 := Lib.hid (below_setRow (cs := #[.int .u8 q.1, .int .i64 q.2]) (HB4.out.alloc HB4.out.size (.cells #[.int .u8 0, .int .i64 0] 57)) HB4.out.size)
          go_wp2
          go_ret2
          exact ⟨HB5.out, _, by rw [HN.out]; rfl, fun ps hps => by rw [HN.out] at hps; cases hps⟩
        | some p =>
          have HWD2 := Lib.hid (wordsB_app HWD.out hpb)
          rw [← (show P.take (k + 1) = P.take k ++ [x] by rw [List.take_add_one, HX.out]; rfl)] at HWD2
          rw [hpb] at HPO
          clear hpb
          go_upto_region 9 with (first
            | (go_at_call 49; refine HPO.out.mono ?_; rintro e w4 ⟨hb, q, rfl, hq⟩; obtain rfl := hq p rfl; have HR4 := Lib.hid hb; have HB4 := Lib.hid (bt HBW.out (Nat.le_refl _) hb); have HN4 := Lib.hid (Blk.new w4 57 #[.int .u8 0, .int .i64 0]); clear hb d0 hq)
            | (refine wpList_store_row rfl 57 (.tmp 8) (.tmp 28) rfl w4.heap.size #[.int .u8 q.1, .int .i64 q.2] rfl rfl 57 _ HN4.out (by kernel_rfl) rfl (by simp [Value.oneCell']) ?_))
          have hnr := newRowS w4 #[.int .u8 0, .int .i64 0] #[.int .u8 q.1, .int .i64 q.2] 57
          obtain ⟨W5, hW5⟩ : ∃ W5, (w4.alloc (.cells #[.int .u8 0, .int .i64 0] 57)).setRow w4.heap.size #[.int .u8 q.1, .int .i64 q.2] = W5 := ⟨_, rfl⟩
          rw [hW5] at hnr
          rw [hW5]
          have hb45 := bt HR4.out (Nat.le_refl _) hnr.1
          have hblk5 : Blk W5 w4.heap.size 57 #[.int .u8 q.1, .int .i64 q.2] := hnr.2.1
          have e0 := hblk5.cell 0
          have e1 := hblk5.cell 1
          simp only [List.getElem?_toArray, List.getElem?_cons_zero, List.getElem?_cons_succ] at e0 e1
          have HPR5 := Lib.hid (HPR.out.below hb45)
          have HBK5 : Hid (Blk W5 w.heap.size 9 (Lib.cellsOf (P.map strB) N)) := Lib.hid (Blk.below HBK.out hb45 (Blk.lt HBK.out))
          have HB5 := Lib.hid (bt HBW.out (Nat.le_refl _) hb45)
          have hget : (qs ++ List.replicate (m - k) ((0 : Int), (0 : Int)))[k]? = some (0, 0) := by rw [List.getElem?_append_right (by rw [HQL.out]; exact Nat.le_refl _), HQL.out, Nat.sub_self, List.getElem?_replicate, if_pos (by omega)]
          obtain ⟨c0, c1⟩ := HPR5.out.cell hget
          have f0 : W5.frozen? ⟨w1.heap.size, k * 2, none⟩ = false := Blk.frozen HPR5.out _
          have f1 : W5.frozen? ⟨w1.heap.size, k * 2 + 1, none⟩ = false := Blk.frozen HPR5.out _
          have HPR6 := Lib.hid (HPR5.out.set_ (i := k) (by simp only [List.length_append, List.length_replicate, HQL.out]; omega) q)
          have HE6 : Hid ((qs ++ List.replicate (m - k) ((0 : Int), (0 : Int))).set k q = (qs ++ [q]) ++ List.replicate (m - (k + 1)) (0, 0)) := Lib.hid (by
            rw [List.set_append_right _ _ (by rw [HQL.out]; exact Nat.le_refl _), HQL.out, Nat.sub_self, show m - k = (m - (k + 1)) + 1 by omega, List.replicate_succ]
            simp)
          rw [HE6.out] at HPR6
          have HBK6 : Hid (Blk ((W5.setCell ⟨w1.heap.size, k * 2, none⟩ (.int .u8 q.1)).setCell ⟨w1.heap.size, k * 2 + 1, none⟩ (.int .i64 q.2)) w.heap.size 9 (Lib.cellsOf (P.map strB) N)) := Lib.hid (Blk.far (Blk.far HBK5.out HSZ.out.2 _) HSZ.out.2 _)
          have HB6 : Hid (Below w.heap.size w ((W5.setCell ⟨w1.heap.size, k * 2, none⟩ (.int .u8 q.1)).setCell ⟨w1.heap.size, k * 2 + 1, none⟩ (.int .i64 q.2))) := Lib.hid ((HB5.out.setCell HSZ.out.1 _).setCell HSZ.out.1 _)
          clear hW5 hnr hb45 hblk5 hget
          go_wp2
          go_roundg (m - (k + 1))
          case measure => omega
          case rel => first
            | exact ⟨k + 1, qs ++ [q], by omega, rfl, by go_num, by simp [HQL.out], HWD2.out, HPR6.out, HBK6.out, HB6.out⟩
            | ((repeat apply Exists.intro); exact ⟨⟨k + 1, qs ++ [q], by omega, rfl, by go_num, by simp [HQL.out], HWD2.out, HPR6.out, HBK6.out, HB6.out⟩, rfl⟩)
      · have hkm : k = m := by omega
        have hk1 : ¬ (k : Int) < (m : Int) := by omega
        have hw9 : wordsB P = some qs := by rw [← HWD.out, List.take_of_length_le (by rw [HM.out]; omega)]
        have HPB3 : Hid (pb = if okPs qs = true then some qs else none) := Lib.hid (by rw [HPB2.out, hw9])
        have hpr9 : PrP wr w1.heap.size qs := by
          have h1 := HPR.out
          rw [hkm, Nat.sub_self] at h1
          simpa using h1
        have hql9 : qs.length = m := HQL.out.trans hkm
        have hown := PrP.own hpr9 HSZ.out.1 (by rw [hql9]; simp [maxLen]; omega)
        rw [hql9] at hown
        have HOWN := Lib.hid hown
        have hrow : RowE 2 encPp wr (.slice (some ⟨w1.heap.size, 0, none⟩) m m) qs := own_rowe lenPp (B := w.heap.size) (by rw [hql9]; exact hown)
        have HAP := Lib.hid (areProps_any wr _ qs hrow (wordsB_wf hw9))
        have HQL9 := Lib.hid hql9
        clear hkm hw9 hpr9 hql9 hown hrow
        go_wp2_with (go_at_call 18; refine HAP.out.mono ?_; rintro e w6 ⟨rfl, hb⟩; have HB6 := Lib.hid hb; clear hb)
        go_ret2
        refine ⟨bt HBW.out (Nat.le_refl _) HB6.out, .slice (some ⟨w1.heap.size, 0, none⟩) m m, ?_, fun ps hps => ?_⟩
        · rw [HPB3.out]
          cases okPs qs <;> rfl
        · rw [HPB3.out] at hps
          split at hps
          · injection hps with hps
            subst hps
            rw [HQL9.out]
            exact own_below HOWN.out HB6.out
          · cases hps
end Go.Proofs.YtjbglgmbnjdhcaaDoor

namespace Go.Proofs.YtjbglgmbnjdhcaaDoor
open Go.RowKit

/-- A reader: the text, where the next line begins, where the last one began, the sizes. -/
def Rd (w : World) (b : Nat) (s : Bs) (p l L n : Nat) : Prop := Blk w b 60 #[.string (strB s), .int .i64 (p : Int), .int .i64 (l : Int), .int .i64 (L : Int), .int .i64 (n : Int)]
theorem Rd.cells {w : World} {b : Nat} {s : Bs} {p l L n : Nat} (h : Rd w b s p l L n) : w.cell? ⟨b, 0, none⟩ = some (.string (strB s)) ∧ w.cell? ⟨b, 1, none⟩ = some (.int .i64 (p : Int)) ∧ w.cell? ⟨b, 2, none⟩ = some (.int .i64 (l : Int)) ∧ w.cell? ⟨b, 3, none⟩ = some (.int .i64 (L : Int)) ∧ w.cell? ⟨b, 4, none⟩ = some (.int .i64 (n : Int)) :=
  ⟨Blk.cell h 0, Blk.cell h 1, Blk.cell h 2, Blk.cell h 3, Blk.cell h 4⟩
theorem Rd.below {w w' : World} {b : Nat} {s : Bs} {p l L n : Nat} (h : Rd w b s p l L n) (hb : Below w.heap.size w w') : Rd w' b s p l L n := Blk.below h hb (Blk.lt h)
theorem Rd.at_ {w : World} {b : Nat} {s : Bs} {p l L n : Nat} (h : Rd w b s p l L n) (q : Nat) : Rd (w.setCell ⟨b, 1, none⟩ (.int .i64 (q : Int))) b s q l L n := by
  have := Blk.set_ h 1 (.int .i64 (q : Int))
  exact this
theorem Rd.last {w : World} {b : Nat} {s : Bs} {p l L n : Nat} (h : Rd w b s p l L n) (q : Nat) : Rd (w.setCell ⟨b, 2, none⟩ (.int .i64 (q : Int))) b s p q L n := by
  have := Blk.set_ h 2 (.int .i64 (q : Int))
  exact this
theorem gb_below {w w1 w2 : World} {row : Option Nat} (h : w.grownBy w1 row) (hb : Below w1.heap.size w1 w2) : w.grownBy w2 row :=
  ⟨hb.os.trans h.os, hb.tape.trans h.tape, hb.output.trans h.output, Nat.le_trans h.size hb.size, fun k hk hne => (hb.block k (Nat.lt_of_lt_of_le hk h.size)).trans (h.block k hk hne)⟩
theorem gb_trans {w w1 w2 : World} {row : Option Nat} (h : w.grownBy w1 row) (h2 : w1.grownBy w2 row) : w.grownBy w2 row :=
  ⟨h2.os.trans h.os, h2.tape.trans h.tape, h2.output.trans h.output, Nat.le_trans h.size h2.size, fun k hk hne => (h2.block k (Nat.lt_of_lt_of_le hk h.size) hne).trans (h.block k hk hne)⟩
theorem gb_of {w w1 : World} {row : Option Nat} (hb : Below w.heap.size w w1) : w.grownBy w1 row := ⟨hb.os, hb.tape, hb.output, hb.size, fun k hk _ => hb.block k hk⟩
theorem gb_to {w w1 : World} {b B : Nat} (h : w.grownBy w1 (some b)) (hB : B ≤ b) (hb : B ≤ w.heap.size) : Below B w w1 :=
  ⟨h.os, h.tape, h.output, h.size, fun k hk => h.block k (by omega) (fun e => by injection e with e; omega)⟩
theorem gb_set {w w1 : World} {b : Nat} (h : w.grownBy w1 (some b)) (i : Nat) (v : Value) : w.grownBy (w1.setCell ⟨b, i, none⟩ v) (some b) := only_setL h _ _
/-- Where the next line but one begins. -/
def aftB (s : Bs) (p : Nat) : Nat := s.length - (lnB (s.drop p)).2.length
theorem aftB_ok {s : Bs} {p : Nat} (hp : p ≤ s.length) : p ≤ aftB s p ∧ aftB s p ≤ s.length ∧ s.drop (aftB s p) = (lnB (s.drop p)).2 := by
  unfold aftB
  rcases lnB_cases (s.drop p) with ⟨h, _⟩ | ⟨a, r, h, h2, _, _⟩
  · rw [h]
    simp only [List.length_drop]
    rw [show s.length - (s.length - p) = p by omega]
    exact ⟨Nat.le_refl _, hp, rfl⟩
  · rw [h]
    simp only
    have hl : (s.drop p).length = a.length + 1 + r.length := by rw [h2]; simp; omega
    rw [List.length_drop] at hl
    refine ⟨by omega, by omega, ?_⟩
    rw [show s.length - r.length = p + (a.length + 1) by omega, ← List.drop_drop, h2]
    rw [show a ++ 10 :: r = (a ++ [10]) ++ r by simp, List.drop_append_of_le_length (by simp), List.drop_of_length_le (by simp)]
    rfl
set_option maxHeartbeats 2000000 in
theorem more_any (w : World) (b : Nat) (s : Bs) (p l L n : Nat) (h : Rd w b s p l L n) : Calls Tryd.prog 26 #[.pointer (some ⟨b, 0, none⟩)] w fun e w' => e = .returned (.bool (decide (p < s.length))) ∧ Below w.heap.size w w' := by
  obtain ⟨c0, c1, _, _, _⟩ := h.cells
  have hsz : (strB s).size = s.length := strB_size s
  have hd : decide ((p : Int) < (s.length : Int)) = decide (p < s.length) := decide_eq_decide.2 (by omega)
  rw [← hd]
  generalize strB s = T at c0 hsz
  generalize s.length = sl at hsz ⊢
  have d0 : ({ w with drawn := w.drawn + 1 } : World).cell? ⟨b, 0, none⟩ = some (.string T) := c0
  have d1 : ({ w with drawn := w.drawn + 1 } : World).cell? ⟨b, 1, none⟩ = some (.int .i64 (p : Int)) := c1
  have HB : Hid (Below w.heap.size w w.drew) := Lib.hid (Below.refl _ _).drew
  clear h
  go_enter Tryd.func26, Tryd.ntmps26
  go_upto_region 1 with (fail)
  go_region
  go_wp2
  go_ret
  exact ⟨by simp, HB.out⟩
set_option maxHeartbeats 2000000 in
theorem wrong_any (w : World) (b : Nat) (s : Bs) (p l L n : Nat) (e : Int) (h : Rd w b s p l L n) : Calls Tryd.prog 38 #[.pointer (some ⟨b, 0, none⟩), .int .i64 e] w fun x w' => x = .returned (.agg #[.int .i64 (l : Int), .int .i64 e]) ∧ Below w.heap.size w w' := by
  have hlt : b < w.heap.size := Blk.lt h
  obtain ⟨_, _, c2, _, _⟩ := h.cells
  have HN := Lib.hid (Blk.new w 40 #[.int .i64 0, .int .i64 0])
  have HB := Lib.hid (below_setRow (cs := #[.int .i64 (l : Int), .int .i64 e]) ((Below.refl w.heap.size w).alloc (Nat.le_refl _) (.cells #[.int .i64 0, .int .i64 0] 40)) (Nat.le_refl _))
  clear h
  go_enter Tryd.func38, Tryd.ntmps38
  go_wp2_with (refine wpList_store_row rfl 40 (.tmp 4) (.tmp 10) rfl w.heap.size #[.int .i64 (l : Int), .int .i64 e] rfl rfl 40 _ HN.out (by kernel_rfl) rfl (by simp [Value.oneCell']) ?_)
  refine bodyPost_ret (results_cell_row (fn := Tryd.f38) rfl _ _ w.heap.size 40 #[.int .i64 (l : Int), .int .i64 e] (0, 0) _ rfl (setRow_heap _ _ _ #[.int .i64 (l : Int), .int .i64 e] _ _ HN.out) Tryd.underlying40 rfl (by kernel_rfl)) rfl ?_
  exact ⟨rfl, HB.out⟩
set_option maxHeartbeats 4000000 in
set_option maxRecDepth 100000 in
theorem line_any (w : World) (B b : Nat) (s : Bs) (p l L n : Nat) (h : Rd w b s p l L n) (hp : p ≤ s.length) (hs : s.length ≤ 262144) (lib : LibB B w) (hB : B ≤ b) :
    Calls Tryd.prog 37 #[.pointer (some ⟨b, 0, none⟩)] w fun e w' => w.grownBy w' (some b) ∧ e = .returned (.string (strB (lnB (s.drop p)).1)) ∧ Rd w' b s (aftB s p) p L n := by
  have hlt : b < w.heap.size := Blk.lt h
  obtain ⟨c0, c1, c2, _, _⟩ := h.cells
  have f2 : w.frozen? ⟨b, 2, none⟩ = false := Blk.frozen h 2
  have h1 := h.last p
  have hg1 := gb_set (World.grownBy.refl w (some b)) 2 (.int .i64 (p : Int))
  have HL0 := Lib.hid lib
  have HCUT := Lib.hid (fun (wx : World) (hb : Below B w wx) => (show Calls Tryd.prog 47 #[.string (strB (s.drop p)), .string ⟨#[10]⟩] wx fun e w' => e = .returned (.tuple #[.string ⟨(Lib.cut (s.drop p) [10]).1.toArray⟩, .string ⟨(Lib.cut (s.drop p) [10]).2.1.toArray⟩, .bool (Lib.cut (s.drop p) [10]).2.2]) ∧ ∃ n, w' = wx.drewN n from by
    obtain ⟨m, hm⟩ := (lib.on hb).here.max
    have := Tryd.strings_Cut (strB (s.drop p)) (strB [10]) m wx (by rw [strB_size, List.length_drop]; omega) hm
    rwa [strB_list, strB_list] at this))
  obtain ⟨w1, hw1⟩ : ∃ w1, w.setCell ⟨b, 2, none⟩ (.int .i64 (p : Int)) = w1 := ⟨_, rfl⟩
  rw [hw1] at h1 hg1
  have HW1 := Lib.hid hw1
  clear hw1
  have HR1 := Lib.hid h1
  have HG1 := Lib.hid hg1
  have HBB : Hid (∀ wz, Below w1.heap.size w1 wz → Below B w wz) := Lib.hid (fun wz hz => (gb_to HG1.out hB (by omega)).trans (hz.mono (by have := HG1.out.size; omega)))
  have hsz : (strB s).size = s.length := strB_size s
  have hdr := strB_drop s p
  rw [hsz] at hdr
  have HCEL : Hid (∀ wz, Below w1.heap.size w1 wz → wz.cell? ⟨b, 0, none⟩ = some (.string (strB s)) ∧ wz.cell? ⟨b, 1, none⟩ = some (.int .i64 (p : Int))) := Lib.hid (fun wz hz => by
    obtain ⟨e0, e1, _⟩ := (HR1.out.below hz).cells
    exact ⟨e0, e1⟩)
  have hp0 : (0 : Int) ≤ (p : Int) := by omega
  have hp1 : (p : Int) ≤ (s.length : Int) := by omega
  have hp2 : p ≤ s.length := hp
  have HS := Lib.hid hs
  obtain ⟨ln, hln⟩ : ∃ x, (lnB (s.drop p)).1 = x := ⟨_, rfl⟩
  obtain ⟨q, hq⟩ : ∃ x, aftB s p = x := ⟨_, rfl⟩
  obtain ⟨t1, t2, t3, ht⟩ : ∃ x y z, Lib.cut (s.drop p) [10] = (x, y, z) := ⟨_, _, _, rfl⟩
  have HCA : Hid ((t3 = false ∧ ln = [10] ∧ q = p) ∨ (t3 = true ∧ ln = t1 ∧ q = p + (t1.length + 1) ∧ t1.length + 1 ≤ 262144)) := Lib.hid (by
    rw [cut_cutC] at ht
    unfold aftB at hq
    unfold lnB at hln hq
    cases hc : cutC 10 (s.drop p) with
    | none =>
      rw [hc] at ht hln hq
      simp only [Prod.mk.injEq] at ht hln hq
      refine .inl ⟨ht.2.2.symm, hln.symm, ?_⟩
      rw [← hq, List.length_drop]
      omega
    | some y =>
      obtain ⟨a, r⟩ := y
      rw [hc] at ht hln hq
      simp only [Prod.mk.injEq] at ht hln hq
      obtain ⟨e, _⟩ := cutC_some hc
      have h2 : (s.drop p).length = a.length + 1 + r.length := by rw [e]; simp; omega
      rw [List.length_drop] at h2
      refine .inr ⟨ht.2.2.symm, hln.symm.trans ht.1, ?_, ?_⟩
      · rw [← ht.1]; omega
      · rw [← ht.1]; omega)
  rw [ht] at HCUT
  rw [hln, hq]
  clear h lib h1 hg1 hln hq ht
  go_enter Tryd.func37, Tryd.ntmps37
  go_upto_region 2 with (fail)
  rw [HW1.out]
  clear HW1 c0 c1 c2 f2
  refine wp_region_quiet (C := fun wz => Below w1.heap.size w1 wz) (by kernel_rfl) (by kernel_rfl) (Below.refl w1.heap.size w1).drew ?_
  simp only
  repeat
    first
      | go_big_quiet_skip
      | (refine wpQuiet_step (fun K hK => ?_)
         rw [if_pos (by rfl)]
         unfold Oper.quiet
         apply Exists.intro
         refine And.intro (fun wx hWx => ?_) (hK _ ?_)
         · obtain ⟨e0, e1⟩ := HCEL.out wx hWx
           first
             | (go_simp; exact rfl)
             | (go_simp; go_at_call 47; refine (HCUT.out wx (HBB.out wx hWx)).mono ?_; rintro e w' ⟨rfl, n, rfl⟩; exact ⟨rfl, below_drewN hWx n⟩)
         clear hK K
         try simp only [Act.put, List.setIfInBounds_toArray, List.set_cons_zero, List.set_cons_succ])
  refine wpQuiet_nil ?_
  intro w5 hw5
  have HW5 := Lib.hid hw5
  clear hw5
  rcases HCA.out with ⟨rfl, hln, hq⟩ | ⟨rfl, hln, hq, hq2⟩
  · have HE := Lib.hid (And.intro hln hq)
    clear hln hq
    go_wp2
    go_ret
    refine ⟨gb_below HG1.out HW5.out, ?_, ?_⟩
    · rw [HE.out.1]; rfl
    · rw [HE.out.2]; exact HR1.out.below HW5.out
  · have HE := Lib.hid (And.intro hln hq)
    have hla : (⟨t1.toArray⟩ : ByteArray).size = t1.length := strB_size t1
    obtain ⟨e0, e1⟩ := HCEL.out w5 HW5.out
    have f1 : w5.frozen? ⟨b, 1, none⟩ = false := Blk.frozen (HR1.out.below HW5.out) 1
    obtain ⟨al, hal⟩ : ∃ n, t1.length = n := ⟨_, rfl⟩
    rw [hal] at hla hq2 HE
    have HR6 := Lib.hid ((HR1.out.below HW5.out).at_ (p + (al + 1)))
    have HG6 := Lib.hid (gb_set (gb_below HG1.out HW5.out) 1 (.int .i64 ((p + (al + 1) : Nat) : Int)))
    have hwr1 : IntKind.i64.wrap ((al : Int) + 1) = (al : Int) + 1 := by rw [IntKind.wrap_i64]; omega
    have hwr2 : IntKind.i64.wrap ((p : Int) + ((al : Int) + 1)) = ((p + (al + 1) : Nat) : Int) := by have := HS.out; rw [IntKind.wrap_i64]; omega
    generalize hsa : (⟨t1.toArray⟩ : ByteArray) = sa at *
    have HSA : Hid (sa = strB t1) := Lib.hid (by rw [← hsa]; rfl)
    clear hsa hal hln hq hq2
    go_wp2
    go_ret
    refine ⟨HG6.out, ?_, ?_⟩
    · rw [HSA.out, HE.out.1]; rfl
    · rw [HE.out.2]; exact HR6.out
end Go.Proofs.YtjbglgmbnjdhcaaDoor

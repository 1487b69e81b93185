/- Stim: Print. -/
import Derived.Test.YtjbglgmbnjdhcaaDoorStmK
namespace Go.Proofs.YtjbglgmbnjdhcaaDoor
open Go.RowKit

/-- A block of bytes. -/
def BB (w : World) (g : Nat) (l : Bs) : Prop := Blk w g 5 (l.map fun b => Value.int .u8 (b.toNat : Int)).toArray
theorem BB.cell {w : World} {g k : Nat} {l : Bs} {c : UInt8} (h : BB w g l) (hk : l[k]? = some c) : w.cell? ⟨g, k, none⟩ = some (.int .u8 (c.toNat : Int)) := by
  rw [Blk.cell h]
  simp [hk]
theorem BB.frozen {w : World} {g : Nat} {l : Bs} (h : BB w g l) (k : Nat) : w.frozen? ⟨g, k, none⟩ = false := Blk.frozen h k
theorem BB.set_ {w : World} {g k : Nat} {l : Bs} (h : BB w g l) (c : UInt8) : BB (w.setCell ⟨g, k, none⟩ (.int .u8 (c.toNat : Int))) g (l.set k c) := by
  have := Blk.set_ h k (.int .u8 (c.toNat : Int))
  unfold BB
  rw [List.map_set]
  simpa using this
theorem BB.text {w : World} {g : Nat} {l : Bs} (h : BB w g l) : (convert 48 9 (.slice (some ⟨g, 0, none⟩) l.length l.length)).run Tryd.prog w = .ok (.string (strB l)) w := by
  refine run_convert_bytes_back w 48 9 5 ⟨g, 0, none⟩ l.length l Tryd.underlying48 Tryd.underlying5 Tryd.underlying9 (fun j hj => ?_)
  rw [add_none, Nat.zero_add]
  exact h.cell (List.getElem?_eq_getElem hj)
theorem infoU8 : (Tryd.prog.info? 5).map (fun i => (i.zero, i.size, i.bytes)) = some (some (.int .u8 0), 1, 1) := by kernel_rfl
theorem make_bytesB (n : Nat) (h : n ≤ 281474976710656) (wx : World) : (Instr.makeSlice 48 (.int .i64 (n : Int)) (.int .i64 (n : Int))).run Tryd.prog wx = .ok (.slice (some ⟨wx.heap.size, 0, none⟩) n n) (wx.alloc (.cells (madeCells #[Value.int .u8 0] n) 5)) := by
  obtain ⟨i0, hi0, hz0, hz1, hz2⟩ := info_of2 infoU8
  have := run_make (P := Tryd.prog) wx 48 5 i0 (.int .u8 0) Tryd.underlying48 hi0 hz0 .i64 .i64 n n (by omega) (by omega) (by rw [hz2]; omega) (by omega)
  rw [hz1] at this
  simpa [Value.cells] using this
theorem new_bb (w : World) (n : Nat) : BB (w.alloc (.cells (madeCells #[Value.int .u8 0] n) 5)) w.heap.size (List.replicate n 0) := by
  unfold BB
  rw [show madeCells #[Value.int .u8 0] n = ((List.replicate n (0 : UInt8)).map fun b => Value.int .u8 (b.toNat : Int)).toArray from by
    apply Array.toList_inj.1
    rw [toList_madeCells_one]; simp]
  exact Blk.new _ _ _
theorem BB.below {w w' : World} {g : Nat} {l : Bs} (h : BB w g l) (hb : Below w.heap.size w w') : BB w' g l := Blk.below h hb (Blk.lt h)
/-- The digits of the first k truths, and nothing behind. -/
def lineF (r : List Bool) (k : Nat) : Bs := bitsB (r.take k) ++ List.replicate (r.length - k) 0
theorem lineF_zero (r : List Bool) : lineF r 0 = List.replicate r.length 0 := by simp [lineF, bitsB]
theorem lineF_end (r : List Bool) : lineF r r.length = bitsB r := by simp [lineF]
theorem bits_length (r : List Bool) : (bitsB r).length = r.length := by simp [bitsB]
theorem lineF_step {r : List Bool} {k : Nat} {z : Bool} (h : r[k]? = some z) : (lineF r k).set k (if z then 49 else 48) = lineF r (k + 1) := by
  have hlt : k < r.length := (List.getElem?_eq_some_iff.1 h).1
  unfold lineF
  rw [List.take_add_one, h, List.set_append_right _ _ (by rw [bits_length, List.length_take]; omega), bits_length, List.length_take, show r.length - k = (r.length - (k + 1)) + 1 by omega, List.replicate_succ, show k - min k r.length = 0 by omega]
  simp [bitsB]
theorem lineF_has {r : List Bool} {k : Nat} (h : k < r.length) : (lineF r k)[k]? = some 0 := by
  unfold lineF
  rw [List.getElem?_append_right (by rw [bits_length, List.length_take]; omega), bits_length, List.length_take, List.getElem?_replicate, if_pos (by omega)]
theorem rowO_at {w : World} {v : Value} {r : List Bool} (h : RowE 1 encO w v r) : ∃ A c, v = .slice A r.length c ∧ ∀ (k : Nat) (z : Bool), r[k]? = some z → ∃ b off, A = some ⟨b, off, none⟩ ∧ b < w.heap.size ∧ w.cell? ⟨b, off + k, none⟩ = some (.bool z) := by
  obtain ⟨A, c, rfl, _, _, h6⟩ := h
  refine ⟨A, c, rfl, fun k z hz => ?_⟩
  obtain ⟨b, off, e, hb, hc⟩ := h6 k z hz
  have := hc 0 _ rfl
  simp only [Nat.add_zero, Nat.mul_one] at this
  exact ⟨b, off, e, hb, this⟩
set_option maxHeartbeats 4000000 in
set_option maxRecDepth 100000 in
theorem rowLine_any (w : World) (v : Value) (r : List Bool) (h : RowE 1 encO w v r) (hr : r.length ≤ 281474976710656) : Calls Tryd.prog 42 #[v] w fun e w' => e = .returned (.string (strB (bitsB r))) ∧ Below w.heap.size w w' := by
  obtain ⟨A, c, rfl, hat⟩ := rowO_at h
  have HAT := Lib.hid hat
  have hmk := make_bytesB r.length hr
  have HB0 : Hid (Below w.heap.size w (w.alloc (.cells (madeCells #[Value.int .u8 0] r.length) 5))) := Lib.hid ((Below.refl _ _).alloc (Nat.le_refl _) _)
  have HT0 : Hid (BB (w.alloc (.cells (madeCells #[Value.int .u8 0] r.length) 5)) w.heap.size (lineF r 0)) := Lib.hid (by rw [lineF_zero]; exact new_bb w r.length)
  have HE := Lib.hid (lineF_end r)
  obtain ⟨n, hn⟩ : ∃ n, r.length = n := ⟨_, rfl⟩
  rw [hn] at hmk HB0 HT0 HE ⊢
  rw [hn] at hr
  have HN := Lib.hid hn
  clear h hat hn
  go_enter Tryd.func42, Tryd.ntmps42
  go_upto_region 3 with (fail)
  go_loopg [11] n (fun j iv wx => ∃ k : Nat, k ≤ n ∧ iv = .int .i64 k ∧ j = n - k ∧ BB wx w.heap.size (lineF r k) ∧ Below w.heap.size w wx)
  case atStart => exact ⟨0, Nat.zero_le _, rfl, rfl, HT0.out, HB0.out⟩
  case round =>
    obtain ⟨k, hk, rfl, hgk, htb, hbw⟩ := hrel
    subst hgk
    have HTB := Lib.hid htb
    have HBW := Lib.hid hbw
    clear htb hbw
    by_cases hlt : k < n
    · obtain ⟨z, hz⟩ : ∃ z, r[k]? = some z := ⟨_, List.getElem?_eq_getElem (by rw [HN.out]; exact hlt)⟩
      obtain ⟨b, off, rfl, hb, hu⟩ := HAT.out k z hz
      have hcu := (HBW.out.cell (p := ⟨b, off + k, none⟩) hb).trans hu
      have hk0 : (0 : Int) ≤ (k : Int) := by omega
      have hk1 : (k : Int) < (n : Int) := by omega
      have c0 := HTB.out.cell (lineF_has (by rw [HN.out]; exact hlt))
      have f0 := HTB.out.frozen k
      have HBL := Lib.hid hb
      have HT1 := Lib.hid (HTB.out.set_ (k := k) 48)
      have HB1 : Hid (Below w.heap.size w (wr.setCell ⟨w.heap.size, k, none⟩ (.int .u8 48))) := Lib.hid (HBW.out.setCell (Nat.le_refl _) _)
      have HZ := Lib.hid (lineF_step hz)
      clear hz hu hb
      cases z with
      | false =>
        have HT2 : Hid (BB (wr.setCell ⟨w.heap.size, k, none⟩ (.int .u8 48)) w.heap.size (lineF r (k + 1))) := Lib.hid (by rw [← HZ.out]; exact HT1.out)
        go_wp2
        go_roundg (n - (k + 1))
        case measure => omega
        case rel => exact ⟨k + 1, by omega, by go_num, rfl, HT2.out, HB1.out⟩
      | true =>
        have HT2 : Hid (BB ((wr.setCell ⟨w.heap.size, k, none⟩ (.int .u8 48)).setCell ⟨w.heap.size, k, none⟩ (.int .u8 49)) w.heap.size (lineF r (k + 1))) := Lib.hid (by
          rw [← HZ.out]
          have h9 := HT1.out.set_ (k := k) 49
          rw [List.set_set] at h9
          exact h9)
        have HB2 : Hid (Below w.heap.size w ((wr.setCell ⟨w.heap.size, k, none⟩ (.int .u8 48)).setCell ⟨w.heap.size, k, none⟩ (.int .u8 49))) := Lib.hid (HB1.out.setCell (Nat.le_refl _) _)
        have hcu2 : (wr.setCell ⟨w.heap.size, k, none⟩ (.int .u8 48)).cell? ⟨b, off + k, none⟩ = some (.bool true) := (World.cell?_setCell_other wr ⟨w.heap.size, k, none⟩ ⟨b, off + k, none⟩ (.int .u8 48) (by have := HBL.out; intro e; injection e with e1; omega)).trans hcu
        have c1 : (wr.setCell ⟨w.heap.size, k, none⟩ (.int .u8 48)).cell? ⟨w.heap.size, k, none⟩ = some (.int .u8 48) := by
          have h9 := HT1.out.cell (k := k) (c := 48) (by rw [List.getElem?_set]; simp; exact (List.getElem?_eq_some_iff.1 (lineF_has (by rw [HN.out]; exact hlt))).1)
          exact h9
        have f1 := HT1.out.frozen k
        go_wp2
        go_roundg (n - (k + 1))
        case measure => omega
        case rel => exact ⟨k + 1, by omega, by go_num, rfl, HT2.out, HB2.out⟩
    · have hk1 : ¬ (k : Int) < (n : Int) := by omega
      have hke : k = n := by omega
      subst hke
      have hcv := HTB.out.text
      rw [HE.out, bits_length, HN.out] at hcv
      go_wp2
      go_ret
      exact ⟨rfl, HBW.out⟩
end Go.Proofs.YtjbglgmbnjdhcaaDoor

namespace Go.Proofs.YtjbglgmbnjdhcaaDoor
open Go.RowKit

/-- A block of texts. -/
def SB (w : World) (g : Nat) (xs : List Bs) : Prop := Blk w g 9 (xs.map fun b => Value.string (strB b)).toArray
theorem SB.cell {w : World} {g k : Nat} {xs : List Bs} {c : Bs} (h : SB w g xs) (hk : xs[k]? = some c) : w.cell? ⟨g, k, none⟩ = some (.string (strB c)) := by
  rw [Blk.cell h]
  simp [hk]
theorem SB.frozen {w : World} {g : Nat} {xs : List Bs} (h : SB w g xs) (k : Nat) : w.frozen? ⟨g, k, none⟩ = false := Blk.frozen h k
theorem SB.set_ {w : World} {g k : Nat} {xs : List Bs} (h : SB w g xs) (c : Bs) : SB (w.setCell ⟨g, k, none⟩ (.string (strB c))) g (xs.set k c) := by
  have := Blk.set_ h k (.string (strB c))
  unfold SB
  rw [List.map_set]
  simpa using this
theorem SB.below {w w' : World} {g : Nat} {xs : List Bs} (h : SB w g xs) (hb : Below w.heap.size w w') : SB w' g xs := Blk.below h hb (Blk.lt h)
theorem infoStr : (Tryd.prog.info? 9).map (fun i => (i.zero, i.size, i.bytes)) = some (some (.string ⟨#[]⟩), 1, 16) := by kernel_rfl
theorem make_strsB (n : Nat) (h : n ≤ 1000000) (wx : World) : (Instr.makeSlice 64 (.int .i64 (n : Int)) (.int .i64 (n : Int))).run Tryd.prog wx = .ok (.slice (some ⟨wx.heap.size, 0, none⟩) n n) (wx.alloc (.cells (madeCells #[Value.string ⟨#[]⟩] n) 9)) := by
  obtain ⟨i0, hi0, hz0, hz1, hz2⟩ := info_of2 infoStr
  have := run_make (P := Tryd.prog) wx 64 9 i0 (.string ⟨#[]⟩) Tryd.underlying64 hi0 hz0 .i64 .i64 n n (by omega) (by omega) (by rw [hz2]; omega) (by omega)
  rw [hz1] at this
  simpa [Value.cells] using this
theorem new_sb (w : World) (n : Nat) : SB (w.alloc (.cells (madeCells #[Value.string ⟨#[]⟩] n) 9)) w.heap.size (List.replicate n []) := by
  unfold SB
  rw [show madeCells #[Value.string ⟨#[]⟩] n = ((List.replicate n ([] : Bs)).map fun b => Value.string (strB b)).toArray from by
    apply Array.toList_inj.1
    rw [toList_madeCells_one, List.toList_toArray, List.map_replicate]
    rfl]
  exact Blk.new _ _ _
def wordF (ps : List (Int × Int)) (k : Nat) : List Bs := (ps.take k).map propW ++ List.replicate (ps.length - k) []
theorem wordF_zero (ps : List (Int × Int)) : wordF ps 0 = List.replicate ps.length [] := by simp [wordF]
theorem wordF_end (ps : List (Int × Int)) : wordF ps ps.length = ps.map propW := by simp [wordF]
theorem wordF_step {ps : List (Int × Int)} {k : Nat} {p : Int × Int} (h : ps[k]? = some p) : (wordF ps k).set k (propW p) = wordF ps (k + 1) := by
  have hlt : k < ps.length := (List.getElem?_eq_some_iff.1 h).1
  unfold wordF
  rw [List.take_add_one, h, List.set_append_right _ _ (by rw [List.length_map, List.length_take]; omega), List.length_map, List.length_take, show ps.length - k = (ps.length - (k + 1)) + 1 by omega, List.replicate_succ, show k - min k ps.length = 0 by omega]
  simp
theorem wordF_has {ps : List (Int × Int)} {k : Nat} (h : k < ps.length) : (wordF ps k)[k]? = some [] := by
  unfold wordF
  rw [List.getElem?_append_right (by rw [List.length_map, List.length_take]; omega), List.length_map, List.length_take, List.getElem?_replicate, if_pos (by omega)]
theorem prop_at {w : World} {v : Value} {ps : List (Int × Int)} (h : RowE 2 encPp w v ps) : ∃ A c, v = .slice A ps.length c ∧ ∀ (k : Nat) (p : Int × Int), ps[k]? = some p → ∃ b off, A = some ⟨b, off, none⟩ ∧ b < w.heap.size ∧ w.cell? ⟨b, off + k * 2, none⟩ = some (.int .u8 p.1) ∧ w.cell? ⟨b, off + k * 2 + 1, none⟩ = some (.int .i64 p.2) := by
  obtain ⟨A, c, rfl, _, _, h6⟩ := h
  refine ⟨A, c, rfl, fun k p hp => ?_⟩
  obtain ⟨b, off, e, hb, hc⟩ := h6 k p hp
  have h0 := hc 0 _ rfl
  have h1 := hc 1 _ rfl
  simp only [Nat.add_zero, ← Nat.add_assoc] at h0 h1
  exact ⟨b, off, e, hb, h0, h1⟩
theorem dec_len : ∀ (k n : Nat), n < 10 ^ (k + 1) → (dec n).length ≤ k + 1
  | 0, n, h => by rw [dec_small (by simpa using h)]; simp
  | k + 1, n, h => by
    by_cases h2 : n < 10
    · rw [dec_small h2]; simp
    · rw [dec_big h2, List.length_append]
      have := dec_len k (n / 10) (by rw [Nat.pow_succ] at h; omega)
      simp
      omega
theorem strB_cons (c : UInt8) (l : Bs) : (⟨#[c]⟩ : ByteArray) ++ strB l = strB (c :: l) := by
  apply ByteArray.ext
  rw [ByteArray.data_append]
  simp [strB]
theorem joinW_len {ps : List (Int × Int)} (h : ∀ p ∈ ps, okP p) : (propsL ps).length ≤ ps.length * 7 := by
  have key : ∀ qs : List (Int × Int), (∀ p ∈ qs, okP p) → Lib.lens (qs.map propW) ≤ 6 * qs.length := by
    intro qs
    induction qs with
    | nil => intro _; simp [Lib.lens]
    | cons p r ih =>
      intro hq
      have h1 := ih (fun p hp => hq p (List.mem_cons_of_mem _ hp))
      have h2 := hq p (List.mem_cons_self ..)
      have h3 := dec_len 4 p.2.toNat (by have := h2.2; omega)
      simp only [Lib.lens, List.map_cons, List.sum_cons, List.length_cons, propW] at h1 ⊢
      omega
  unfold propsL
  cases ps with
  | nil => simp [Lib.join_nil]
  | cons p r =>
    have h1 := key _ h
    rw [List.map_cons] at h1 ⊢
    rw [Lib.join_length, List.length_map]
    simp only [List.length_cons, List.length_nil] at h1 ⊢
    omega
set_option maxHeartbeats 4000000 in
set_option maxRecDepth 100000 in
theorem propsLine_any (w : World) (B : Nat) (v : Value) (ps : List (Int × Int)) (h : RowE 2 encPp w v ps) (hok : ∀ p ∈ ps, okP p) (hn : ps.length ≤ 16384) (lib : LibB B w) (hB : B ≤ w.heap.size) :
    Calls Tryd.prog 28 #[v] w fun e w' => e = .returned (.string (strB (propsL ps))) ∧ Below w.heap.size w w' := by
  obtain ⟨A, c, rfl, hat⟩ := prop_at h
  have HAT := Lib.hid hat
  have HOK := Lib.hid hok
  have hmk := make_strsB ps.length (by omega)
  have HB0 : Hid (Below w.heap.size w (w.alloc (.cells (madeCells #[Value.string ⟨#[]⟩] ps.length) 9))) := Lib.hid ((Below.refl _ _).alloc (Nat.le_refl _) _)
  have HT0 : Hid (SB (w.alloc (.cells (madeCells #[Value.string ⟨#[]⟩] ps.length) 9)) w.heap.size (wordF ps 0)) := Lib.hid (by rw [wordF_zero]; exact new_sb w ps.length)
  have HE := Lib.hid (wordF_end ps)
  have HJL := Lib.hid (joinW_len hok)
  have HIT := Lib.hid (fun (wx : World) (q : Nat) (hb : Below w.heap.size w wx) (hq : q < 16384) => Itoa_any wx B q (by omega) (lib.up hB hb))
  obtain ⟨n, hnn⟩ : ∃ n, ps.length = n := ⟨_, rfl⟩
  rw [hnn] at hmk HB0 HT0 HE hn HJL ⊢
  have HN := Lib.hid hnn
  clear h hat hnn hok lib
  go_enter Tryd.func28, Tryd.ntmps28
  go_upto_region 3 with (fail)
  go_loopg [11] n (fun j iv wx => ∃ k : Nat, k ≤ n ∧ iv = .int .i64 k ∧ j = n - k ∧ SB wx w.heap.size (wordF ps k) ∧ Below w.heap.size w wx)
  case atStart => exact ⟨0, Nat.zero_le _, rfl, rfl, HT0.out, HB0.out⟩
  case round =>
    obtain ⟨k, hk, rfl, hgk, htb, hbw⟩ := hrel
    subst hgk
    have HTB := Lib.hid htb
    have HBW := Lib.hid hbw
    clear htb hbw
    by_cases hlt : k < n
    · obtain ⟨p, hp⟩ : ∃ p, ps[k]? = some p := ⟨_, List.getElem?_eq_getElem (by rw [HN.out]; exact hlt)⟩
      obtain ⟨b, off, rfl, hb, h0, h1⟩ := HAT.out k p hp
      have hpo := HOK.out p (List.mem_of_getElem? hp)
      have HSTP := Lib.hid (wordF_step hp)
      obtain ⟨kd, pa⟩ := p
      obtain ⟨hkd, hp0, hp1⟩ := hpo
      simp only at h0 h1 hkd hp0 hp1
      obtain ⟨q, rfl⟩ : ∃ q : Nat, pa = q := ⟨pa.toNat, by omega⟩
      have hc0 := (HBW.out.cell (p := ⟨b, off + k * 2, none⟩) hb).trans h0
      have hc1 := (HBW.out.cell (p := ⟨b, off + k * 2 + 1, none⟩) hb).trans h1
      have hk0 : (0 : Int) ≤ (k : Int) := by omega
      have hk1 : (k : Int) < (n : Int) := by omega
      have hq1 : q < 16384 := by omega
      clear hp h0 h1 hb hp0 hp1
      have HB1 : Hid (Below w.heap.size w (wr.alloc (.cells #[.int .u8 kd, .int .i64 (q : Int)] 57))) := Lib.hid (HBW.out.alloc HBW.out.size _)
      have HT1 : Hid (SB (wr.alloc (.cells #[.int .u8 kd, .int .i64 (q : Int)] 57)) w.heap.size (wordF ps k)) := Lib.hid (Blk.alloc HTB.out _)
      have HP1 : Hid (Blk (wr.alloc (.cells #[.int .u8 kd, .int .i64 (q : Int)] 57)) wr.heap.size 57 #[.int .u8 kd, .int .i64 (q : Int)]) := Lib.hid (Blk.new wr _ _)
      have hgne : w.heap.size < wr.heap.size := Blk.lt HTB.out
      go_upto_region 5 with (fail)
      generalize wr.alloc (.cells #[.int .u8 kd, .int .i64 (q : Int)] 57) = Y at HB1 HT1 HP1 ⊢
      generalize wr.heap.size = gp at HP1 hgne ⊢
      have HBD : Hid (Below w.heap.size w Y.drew) := Lib.hid (bt HB1.out (Nat.le_refl _) (Below.refl _ _).drew)
      have HTD : Hid (SB Y.drew w.heap.size (wordF ps k)) := Lib.hid (HT1.out.below (Below.refl _ _).drew)
      have HPD : Hid (Blk Y.drew gp 57 #[.int .u8 kd, .int .i64 (q : Int)]) := Lib.hid (Blk.below HP1.out (Below.refl _ _).drew (Blk.lt HP1.out))
      clear HB1 HT1 HP1 hc0 hc1
      rcases hkd with rfl | rfl
      · have hen : Utf8.encode (IntKind.i32.wrap 98) = ⟨#[98]⟩ := by kernel_rfl
        have hnl : ¬ 9223372036854775807 < (Utf8.encode (IntKind.i32.wrap 98)).size + (strB (dec q)).size := by rw [hen, strB_size]; have := dec_len 4 q (by omega); rw [show (⟨#[98]⟩ : ByteArray).size = 1 from rfl]; omega
        have HEN := Lib.hid hen
        clear hen
        refine wp_region_T (by kernel_rfl) (fun w' => w'.cell? ⟨gp, 0, none⟩ = some (.int .u8 98) ∧ w'.cell? ⟨gp, 1, none⟩ = some (.int .i64 (q : Int))) 12 ?_
        generalize Y.drew = Z at HBD HTD HPD ⊢
        have hHeld := duo_of HPD.out
        refine wpAnyT_take (i := 0) (oi := { dst := some 16, op := Op.move (Operand.tmp 3), type := 64, pos := "write.go:30", after := #[], guard := none }) (v := ?v0r5q1) rfl (by kernel_rfl) (fun _ _ _ h => h) (by rfl) hHeld ?h0r5q1 ?_
        case h0r5q1 => (intro w' hSw; (try dsimp only at hSw); go_simp; try with_reducible rfl)
        (try simp only [Act.put, List.setIfInBounds_toArray, List.set_cons_zero, List.set_cons_succ])
        refine wpAnyT_take (i := 1) (oi := { dst := some 17, op := Op.move (Operand.tmp 4), type := 3, pos := "write.go:30", after := #[], guard := none }) (v := ?v1r5q1) rfl (by kernel_rfl) (fun _ _ _ h => h) (by rfl) hHeld ?h1r5q1 ?_
        case h1r5q1 => (intro w' hSw; (try dsimp only at hSw); go_simp; try with_reducible rfl)
        (try simp only [Act.put, List.setIfInBounds_toArray, List.set_cons_zero, List.set_cons_succ])
        refine wpAnyT_take (i := 2) (oi := { dst := some 18, op := Op.fieldAddr 57 (Operand.tmp 5) 0, type := 0, pos := "write.go:30", after := #[], guard := none }) (v := ?v2r5q1) rfl (by kernel_rfl) (fun _ _ _ h => h) (by rfl) hHeld ?h2r5q1 ?_
        case h2r5q1 => (intro w' hSw; (try dsimp only at hSw); go_simp; try with_reducible rfl)
        (try simp only [Act.put, List.setIfInBounds_toArray, List.set_cons_zero, List.set_cons_succ])
        refine wpAnyT_take (i := 3) (oi := { dst := some 19, op := Op.load 5 (Operand.tmp 18), type := 5, pos := "write.go:30", after := #[{ on := 2, ground := Ground.data }], guard := none }) (v := ?v3r5q1) rfl (by kernel_rfl) (fun _ _ _ h => h) (by rfl) hHeld ?h3r5q1 ?_
        case h3r5q1 => (intro w' hSw; (try dsimp only at hSw); go_simp; try with_reducible rfl)
        (try simp only [Act.put, List.setIfInBounds_toArray, List.set_cons_zero, List.set_cons_succ])
        refine wpAnyT_take (i := 4) (oi := { dst := some 20, op := Op.convert 5 21 (Operand.tmp 19), type := 21, pos := "write.go:30", after := #[{ on := 3, ground := Ground.data }], guard := none }) (v := ?v4r5q1) rfl (by kernel_rfl) (fun _ _ _ h => h) (by rfl) hHeld ?h4r5q1 ?_
        case h4r5q1 => (intro w' hSw; (try dsimp only at hSw); go_simp; try with_reducible rfl)
        (try simp only [Act.put, List.setIfInBounds_toArray, List.set_cons_zero, List.set_cons_succ])
        refine wpAnyT_take (i := 5) (oi := { dst := some 21, op := Op.convert 21 9 (Operand.tmp 20), type := 9, pos := "write.go:30", after := #[{ on := 4, ground := Ground.data }], guard := none }) (v := ?v5r5q1) rfl (by kernel_rfl) (fun _ _ _ h => h) (by rfl) hHeld ?h5r5q1 ?_
        case h5r5q1 => (intro w' hSw; (try dsimp only at hSw); go_simp; try with_reducible rfl)
        (try simp only [Act.put, List.setIfInBounds_toArray, List.set_cons_zero, List.set_cons_succ])
        refine wpAnyT_take (i := 6) (oi := { dst := some 22, op := Op.fieldAddr 57 (Operand.tmp 5) 1, type := 0, pos := "write.go:30", after := #[], guard := none }) (v := ?v6r5q1) rfl (by kernel_rfl) (fun _ _ _ h => h) (by rfl) hHeld ?h6r5q1 ?_
        case h6r5q1 => (intro w' hSw; (try dsimp only at hSw); go_simp; try with_reducible rfl)
        (try simp only [Act.put, List.setIfInBounds_toArray, List.set_cons_zero, List.set_cons_succ])
        refine wpAnyT_take (i := 7) (oi := { dst := some 23, op := Op.load 3 (Operand.tmp 22), type := 3, pos := "write.go:30", after := #[{ on := 6, ground := Ground.data }], guard := none }) (v := ?v7r5q1) rfl (by kernel_rfl) (fun _ _ _ h => h) (by rfl) hHeld ?h7r5q1 ?_
        case h7r5q1 => (intro w' hSw; (try dsimp only at hSw); go_simp; try with_reducible rfl)
        (try simp only [Act.put, List.setIfInBounds_toArray, List.set_cons_zero, List.set_cons_succ])
        clear hHeld
        refine wpAnyT_one (i := 8) (o := { dst := some 24, op := Op.call { callee := Callee.value (Operand.func 27), args := #[Operand.tmp 23], argTypes := #[3] }, type := 9, pos := "write.go:30", after := #[{ on := 7, ground := Ground.data }], guard := none }) rfl (by kernel_rfl) (fun K hK => ?_)
        go_simp
        go_at_call 27
        refine (HIT.out Z q HBD.out hq1).mono ?_
        rintro e w2 ⟨hb2, rfl⟩
        have HB2 := Lib.hid (bt HBD.out (Nat.le_refl _) hb2)
        have HT2 := Lib.hid (HTD.out.below hb2)
        have HP2 := Lib.hid (Blk.below HPD.out hb2 (Blk.lt HPD.out))
        refine hK.out _ _ (fun _ => duo_of HP2.out) ?_
        clear hK K hb2
        (try simp only [Act.put, List.setIfInBounds_toArray, List.set_cons_zero, List.set_cons_succ])
        have hHeld := duo_of HP2.out
        refine wpAnyT_take (i := 9) (oi := { dst := some 25, op := Op.binOp BinOp.add 9 (Operand.tmp 21) (Operand.tmp 24) 9, type := 9, pos := "write.go:30", after := #[{ on := 5, ground := Ground.data }, { on := 8, ground := Ground.data }], guard := none }) (v := ?v9r5q2) rfl (by kernel_rfl) (fun _ _ _ h => h) (by rfl) hHeld ?h9r5q2 ?_
        case h9r5q2 => (intro w' hSw; (try dsimp only at hSw); go_simp; try with_reducible rfl)
        (try simp only [Act.put, List.setIfInBounds_toArray, List.set_cons_zero, List.set_cons_succ])
        refine wpAnyT_take (i := 10) (oi := { dst := some 26, op := Op.indexAddr 64 (Operand.tmp 16) (Operand.tmp 17), type := 0, pos := "write.go:30", after := #[{ on := 0, ground := Ground.data }, { on := 1, ground := Ground.data }, { on := 0, ground := Ground.phase }, { on := 1, ground := Ground.phase }, { on := 2, ground := Ground.phase }, { on := 3, ground := Ground.phase }, { on := 4, ground := Ground.phase }, { on := 5, ground := Ground.phase }, { on := 6, ground := Ground.phase }, { on := 7, ground := Ground.phase }, { on := 8, ground := Ground.phase }, { on := 9, ground := Ground.phase }], guard := none }) (v := ?v10r5q2) rfl (by kernel_rfl) (fun _ _ _ h => h) (by rfl) hHeld ?h10r5q2 ?_
        case h10r5q2 => (intro w' hSw; (try dsimp only at hSw); go_simp; try with_reducible rfl)
        (try simp only [Act.put, List.setIfInBounds_toArray, List.set_cons_zero, List.set_cons_succ])
        clear hHeld
        have e0 := HT2.out.cell (wordF_has (by rw [HN.out]; exact hlt))
        have e1 := HT2.out.frozen k
        have HB3 : Hid (Below w.heap.size w (w2.setCell ⟨w.heap.size, k, none⟩ (.string (Utf8.encode (IntKind.i32.wrap 98) ++ strB (dec q))))) := Lib.hid (HB2.out.setCell (Nat.le_refl _) _)
        have HT3 : Hid (SB (w2.setCell ⟨w.heap.size, k, none⟩ (.string (Utf8.encode (IntKind.i32.wrap 98) ++ strB (dec q)))) w.heap.size (wordF ps (k + 1))) := Lib.hid (by
          rw [HEN.out, strB_cons, ← HSTP.out]
          exact HT2.out.set_ _)
        refine wpAnyT_one (i := 11) (o := { dst := none, op := Op.store 9 (Operand.tmp 26) (Operand.tmp 25), type := 0, pos := "write.go:30", after := #[{ on := 10, ground := Ground.data }, { on := 9, ground := Ground.data }, { on := 8, ground := Ground.chain }, { on := 0, ground := Ground.phase }, { on := 1, ground := Ground.phase }, { on := 2, ground := Ground.phase }, { on := 3, ground := Ground.phase }, { on := 4, ground := Ground.phase }, { on := 5, ground := Ground.phase }, { on := 6, ground := Ground.phase }, { on := 7, ground := Ground.phase }, { on := 8, ground := Ground.phase }, { on := 9, ground := Ground.phase }], guard := none }) rfl (by kernel_rfl) (fun K hK => ?_)
        go_simp
        refine hK.out _ _ (fun _ => duo_of (Blk.far HP2.out (by simpa using Nat.ne_of_gt hgne) _)) ?_
        clear hK K e0 e1
        (try simp only [Act.put, List.setIfInBounds_toArray, List.set_cons_zero, List.set_cons_succ])
        refine wpAnyT_done (by kernel_rfl) ?_
        go_wp2
        go_roundg (n - (k + 1))
        case measure => omega
        case rel => exact ⟨k + 1, by omega, by go_num, rfl, HT3.out, HB3.out⟩
      · have hen : Utf8.encode (IntKind.i32.wrap 106) = ⟨#[106]⟩ := by kernel_rfl
        have hnl : ¬ 9223372036854775807 < (Utf8.encode (IntKind.i32.wrap 106)).size + (strB (dec q)).size := by rw [hen, strB_size]; have := dec_len 4 q (by omega); rw [show (⟨#[106]⟩ : ByteArray).size = 1 from rfl]; omega
        have HEN := Lib.hid hen
        clear hen
        refine wp_region_T (by kernel_rfl) (fun w' => w'.cell? ⟨gp, 0, none⟩ = some (.int .u8 106) ∧ w'.cell? ⟨gp, 1, none⟩ = some (.int .i64 (q : Int))) 12 ?_
        generalize Y.drew = Z at HBD HTD HPD ⊢
        have hHeld := duo_of HPD.out
        refine wpAnyT_take (i := 0) (oi := { dst := some 16, op := Op.move (Operand.tmp 3), type := 64, pos := "write.go:30", after := #[], guard := none }) (v := ?v0r5q3) rfl (by kernel_rfl) (fun _ _ _ h => h) (by rfl) hHeld ?h0r5q3 ?_
        case h0r5q3 => (intro w' hSw; (try dsimp only at hSw); go_simp; try with_reducible rfl)
        (try simp only [Act.put, List.setIfInBounds_toArray, List.set_cons_zero, List.set_cons_succ])
        refine wpAnyT_take (i := 1) (oi := { dst := some 17, op := Op.move (Operand.tmp 4), type := 3, pos := "write.go:30", after := #[], guard := none }) (v := ?v1r5q3) rfl (by kernel_rfl) (fun _ _ _ h => h) (by rfl) hHeld ?h1r5q3 ?_
        case h1r5q3 => (intro w' hSw; (try dsimp only at hSw); go_simp; try with_reducible rfl)
        (try simp only [Act.put, List.setIfInBounds_toArray, List.set_cons_zero, List.set_cons_succ])
        refine wpAnyT_take (i := 2) (oi := { dst := some 18, op := Op.fieldAddr 57 (Operand.tmp 5) 0, type := 0, pos := "write.go:30", after := #[], guard := none }) (v := ?v2r5q3) rfl (by kernel_rfl) (fun _ _ _ h => h) (by rfl) hHeld ?h2r5q3 ?_
        case h2r5q3 => (intro w' hSw; (try dsimp only at hSw); go_simp; try with_reducible rfl)
        (try simp only [Act.put, List.setIfInBounds_toArray, List.set_cons_zero, List.set_cons_succ])
        refine wpAnyT_take (i := 3) (oi := { dst := some 19, op := Op.load 5 (Operand.tmp 18), type := 5, pos := "write.go:30", after := #[{ on := 2, ground := Ground.data }], guard := none }) (v := ?v3r5q3) rfl (by kernel_rfl) (fun _ _ _ h => h) (by rfl) hHeld ?h3r5q3 ?_
        case h3r5q3 => (intro w' hSw; (try dsimp only at hSw); go_simp; try with_reducible rfl)
        (try simp only [Act.put, List.setIfInBounds_toArray, List.set_cons_zero, List.set_cons_succ])
        refine wpAnyT_take (i := 4) (oi := { dst := some 20, op := Op.convert 5 21 (Operand.tmp 19), type := 21, pos := "write.go:30", after := #[{ on := 3, ground := Ground.data }], guard := none }) (v := ?v4r5q3) rfl (by kernel_rfl) (fun _ _ _ h => h) (by rfl) hHeld ?h4r5q3 ?_
        case h4r5q3 => (intro w' hSw; (try dsimp only at hSw); go_simp; try with_reducible rfl)
        (try simp only [Act.put, List.setIfInBounds_toArray, List.set_cons_zero, List.set_cons_succ])
        refine wpAnyT_take (i := 5) (oi := { dst := some 21, op := Op.convert 21 9 (Operand.tmp 20), type := 9, pos := "write.go:30", after := #[{ on := 4, ground := Ground.data }], guard := none }) (v := ?v5r5q3) rfl (by kernel_rfl) (fun _ _ _ h => h) (by rfl) hHeld ?h5r5q3 ?_
        case h5r5q3 => (intro w' hSw; (try dsimp only at hSw); go_simp; try with_reducible rfl)
        (try simp only [Act.put, List.setIfInBounds_toArray, List.set_cons_zero, List.set_cons_succ])
        refine wpAnyT_take (i := 6) (oi := { dst := some 22, op := Op.fieldAddr 57 (Operand.tmp 5) 1, type := 0, pos := "write.go:30", after := #[], guard := none }) (v := ?v6r5q3) rfl (by kernel_rfl) (fun _ _ _ h => h) (by rfl) hHeld ?h6r5q3 ?_
        case h6r5q3 => (intro w' hSw; (try dsimp only at hSw); go_simp; try with_reducible rfl)
        (try simp only [Act.put, List.setIfInBounds_toArray, List.set_cons_zero, List.set_cons_succ])
        refine wpAnyT_take (i := 7) (oi := { dst := some 23, op := Op.load 3 (Operand.tmp 22), type := 3, pos := "write.go:30", after := #[{ on := 6, ground := Ground.data }], guard := none }) (v := ?v7r5q3) rfl (by kernel_rfl) (fun _ _ _ h => h) (by rfl) hHeld ?h7r5q3 ?_
        case h7r5q3 => (intro w' hSw; (try dsimp only at hSw); go_simp; try with_reducible rfl)
        (try simp only [Act.put, List.setIfInBounds_toArray, List.set_cons_zero, List.set_cons_succ])
        clear hHeld
        refine wpAnyT_one (i := 8) (o := { dst := some 24, op := Op.call { callee := Callee.value (Operand.func 27), args := #[Operand.tmp 23], argTypes := #[3] }, type := 9, pos := "write.go:30", after := #[{ on := 7, ground := Ground.data }], guard := none }) rfl (by kernel_rfl) (fun K hK => ?_)
        go_simp
        go_at_call 27
        refine (HIT.out Z q HBD.out hq1).mono ?_
        rintro e w2 ⟨hb2, rfl⟩
        have HB2 := Lib.hid (bt HBD.out (Nat.le_refl _) hb2)
        have HT2 := Lib.hid (HTD.out.below hb2)
        have HP2 := Lib.hid (Blk.below HPD.out hb2 (Blk.lt HPD.out))
        refine hK.out _ _ (fun _ => duo_of HP2.out) ?_
        clear hK K hb2
        (try simp only [Act.put, List.setIfInBounds_toArray, List.set_cons_zero, List.set_cons_succ])
        have hHeld := duo_of HP2.out
        refine wpAnyT_take (i := 9) (oi := { dst := some 25, op := Op.binOp BinOp.add 9 (Operand.tmp 21) (Operand.tmp 24) 9, type := 9, pos := "write.go:30", after := #[{ on := 5, ground := Ground.data }, { on := 8, ground := Ground.data }], guard := none }) (v := ?v9r5q4) rfl (by kernel_rfl) (fun _ _ _ h => h) (by rfl) hHeld ?h9r5q4 ?_
        case h9r5q4 => (intro w' hSw; (try dsimp only at hSw); go_simp; try with_reducible rfl)
        (try simp only [Act.put, List.setIfInBounds_toArray, List.set_cons_zero, List.set_cons_succ])
        refine wpAnyT_take (i := 10) (oi := { dst := some 26, op := Op.indexAddr 64 (Operand.tmp 16) (Operand.tmp 17), type := 0, pos := "write.go:30", after := #[{ on := 0, ground := Ground.data }, { on := 1, ground := Ground.data }, { on := 0, ground := Ground.phase }, { on := 1, ground := Ground.phase }, { on := 2, ground := Ground.phase }, { on := 3, ground := Ground.phase }, { on := 4, ground := Ground.phase }, { on := 5, ground := Ground.phase }, { on := 6, ground := Ground.phase }, { on := 7, ground := Ground.phase }, { on := 8, ground := Ground.phase }, { on := 9, ground := Ground.phase }], guard := none }) (v := ?v10r5q4) rfl (by kernel_rfl) (fun _ _ _ h => h) (by rfl) hHeld ?h10r5q4 ?_
        case h10r5q4 => (intro w' hSw; (try dsimp only at hSw); go_simp; try with_reducible rfl)
        (try simp only [Act.put, List.setIfInBounds_toArray, List.set_cons_zero, List.set_cons_succ])
        clear hHeld
        have e0 := HT2.out.cell (wordF_has (by rw [HN.out]; exact hlt))
        have e1 := HT2.out.frozen k
        have HB3 : Hid (Below w.heap.size w (w2.setCell ⟨w.heap.size, k, none⟩ (.string (Utf8.encode (IntKind.i32.wrap 106) ++ strB (dec q))))) := Lib.hid (HB2.out.setCell (Nat.le_refl _) _)
        have HT3 : Hid (SB (w2.setCell ⟨w.heap.size, k, none⟩ (.string (Utf8.encode (IntKind.i32.wrap 106) ++ strB (dec q)))) w.heap.size (wordF ps (k + 1))) := Lib.hid (by
          rw [HEN.out, strB_cons, ← HSTP.out]
          exact HT2.out.set_ _)
        refine wpAnyT_one (i := 11) (o := { dst := none, op := Op.store 9 (Operand.tmp 26) (Operand.tmp 25), type := 0, pos := "write.go:30", after := #[{ on := 10, ground := Ground.data }, { on := 9, ground := Ground.data }, { on := 8, ground := Ground.chain }, { on := 0, ground := Ground.phase }, { on := 1, ground := Ground.phase }, { on := 2, ground := Ground.phase }, { on := 3, ground := Ground.phase }, { on := 4, ground := Ground.phase }, { on := 5, ground := Ground.phase }, { on := 6, ground := Ground.phase }, { on := 7, ground := Ground.phase }, { on := 8, ground := Ground.phase }, { on := 9, ground := Ground.phase }], guard := none }) rfl (by kernel_rfl) (fun K hK => ?_)
        go_simp
        refine hK.out _ _ (fun _ => duo_of (Blk.far HP2.out (by simpa using Nat.ne_of_gt hgne) _)) ?_
        clear hK K e0 e1
        (try simp only [Act.put, List.setIfInBounds_toArray, List.set_cons_zero, List.set_cons_succ])
        refine wpAnyT_done (by kernel_rfl) ?_
        go_wp2
        go_roundg (n - (k + 1))
        case measure => omega
        case rel => exact ⟨k + 1, by omega, by go_num, rfl, HT3.out, HB3.out⟩
    · have hk1 : ¬ (k : Int) < (n : Int) := by omega
      have hke : k = n := by omega
      subst hke
      have hcl := HTB.out
      rw [HE.out] at hcl
      have HJ := Lib.hid (Tryd.strings_Join w.heap.size 0 k ((ps.map propW).map strB) (strB [32]) wr (fun j x hx => by
        rw [Nat.zero_add]
        rw [List.getElem?_map, Option.map_eq_some_iff] at hx
        obtain ⟨y, hy, rfl⟩ := hx
        exact hcl.cell hy) (Blk.lt HTB.out) (by simp [HN.out]; omega) (by simp [HN.out]) (by
          have h9 := HJL.out
          unfold propsL at h9
          rw [List.map_map, show ((fun x : ByteArray => x.data.toList) ∘ strB) = id from funext fun x => by simp [strB], List.map_id]
          rw [show (strB [32]).data.toList = [32] from rfl]
          omega))
      have hpe : (⟨(Lib.join (((ps.map propW).map strB).map (·.data.toList)) (strB [32]).data.toList).toArray⟩ : ByteArray) = strB (propsL ps) := by
        unfold propsL
        rw [List.map_map, show ((fun x : ByteArray => x.data.toList) ∘ strB) = id from funext fun x => by simp [strB], List.map_id]
        rfl
      rw [hpe] at HJ
      simp only [List.length_map, HN.out] at HJ
      clear hcl hpe
      go_wp2_with (go_at_call 30; refine HJ.out.mono ?_; rintro e w2 ⟨rfl, hb2⟩; have HB2 := Lib.hid (bt HBW.out (Nat.le_refl _) hb2); clear hb2)
      go_ret
      exact ⟨rfl, HB2.out⟩
end Go.Proofs.YtjbglgmbnjdhcaaDoor

namespace Go.Proofs.YtjbglgmbnjdhcaaDoor
open Go.RowKit

def sv (b : Bs) : Value := .string (strB b)
theorem SB.own {w : World} {B g : Nat} {xs : List Bs} (h : SB w g xs) (hB : B ≤ g) (hm : xs.length ≤ maxLen) : w.ownsRow B 9 1 (.slice (some ⟨g, 0, none⟩) xs.length xs.length) xs.length (xs.map sv) := by
  refine ⟨by simp, .inr ⟨g, xs.length, _, rfl, hB, h, Nat.le_refl _, hm, by simp, ?_⟩⟩
  rw [List.take_of_length_le (by simp)]
  rfl
def loopT (k : Int) : List Bs := if k = -1 then [] else [loopW ++ dec k.toNat]
/-- The lines of a trace. -/
def linesT (t : Tr) : List Bs := bitsB t.init :: (t.rows.map bitsB ++ loopT t.loop)
theorem cat_strB (a b : Bs) : strB a ++ strB b = strB (a ++ b) := by
  apply ByteArray.ext
  rw [ByteArray.data_append]
  simp [strB]
set_option maxHeartbeats 4000000 in
set_option maxRecDepth 100000 in
theorem traceLines_any (w : World) (B : Nat) (U : TV) (t : Tr) (ht : t.In w U) (hi : t.init.length ≤ 16384) (hrs : ∀ r ∈ t.rows, r.length ≤ 16384) (hr : t.rows.length ≤ 512) (hl : -1 ≤ t.loop ∧ t.loop < 512) (lib : LibB B w) (hB : B ≤ w.heap.size) :
    Calls Tryd.prog 29 #[.agg #[U.i, U.r, .int .i64 t.loop]] w fun e w' => Below w.heap.size w w' ∧ ∃ v, e = .returned v ∧ w'.ownsRow w.heap.size 9 1 v (linesT t).length ((linesT t).map sv) := by
  obtain ⟨iS, hiS, hSz0, hSz1, hSz2⟩ := info_of2 infoStr
  have HIS := Lib.hid (And.intro hiS (And.intro hSz0 (And.intro hSz1 hSz2)))
  clear hiS hSz0 hSz1 hSz2
  obtain ⟨Vi, Vr⟩ := U
  obtain ⟨AR, cR, eR, _, hrr⟩ := ht.r.at_
  obtain ⟨AI, nI, cI, eI⟩ := slO_form ht.i
  simp only at eR eI
  subst eR eI
  have HRL := Lib.hid (fun (wx : World) (v : Value) (r : List Bool) (hb : Below w.heap.size w wx) (h : RowE 1 encO w v r) (hr : r.length ≤ 16384) => rowLine_any wx v r (h.below hb) (by omega))
  have HRI := Lib.hid ht.i
  have HRR := Lib.hid hrr
  have HRS := Lib.hid hrs
  have HII := Lib.hid hi
  have HIT := Lib.hid (fun (wx : World) (q : Nat) (hb : Below w.heap.size w wx) (hq : q < 512) => Itoa_any wx B q (by omega) (lib.up hB hb))
  obtain ⟨n, hn⟩ : ∃ k, t.rows.length = k := ⟨_, rfl⟩
  obtain ⟨lp, hlp⟩ : ∃ k, t.loop = k := ⟨_, rfl⟩
  rw [hlp] at hl
  rw [hn] at hr
  rw [hn, hlp]
  have HN := Lib.hid hn
  have HLP := Lib.hid hlp
  have HL := Lib.hid hl
  have HA0 := Lib.hid (Blk.new w 26 #[.slice AI nI cI, .slice AR n cR, .int .i64 lp])
  have HB0 : Hid (Below w.heap.size w (w.alloc (.cells #[.slice AI nI cI, .slice AR n cR, .int .i64 lp] 26))) := Lib.hid ((Below.refl _ _).alloc (Nat.le_refl _) _)
  clear ht hrr hi hrs hn hlp lib hl
  go_enter Tryd.func29, Tryd.ntmps29
  go_upto_region 1 with (fail)
  generalize w.alloc (.cells #[.slice AI nI cI, .slice AR n cR, .int .i64 lp] 26) = X at HA0 HB0 ⊢
  obtain ⟨c0, c1, c2⟩ := trio_of HA0.out
  go_upto_region 2 with (go_at_call 42; refine (HRL.out X _ t.init HB0.out HRI.out HII.out).mono ?_; rintro e w2 ⟨rfl, hb2⟩; have HB2 := Lib.hid (bt HB0.out (Nat.le_refl _) hb2); have HA2 := Lib.hid (Blk.below HA0.out hb2 (Blk.lt HA0.out)); clear hb2)
  have HS2 : Hid (SB (w2.alloc (.cells #[.string (strB (bitsB t.init))] 9)) w2.heap.size [bitsB t.init]) := Lib.hid (Blk.new w2 _ _)
  have HB3 : Hid (Below w.heap.size w (w2.alloc (.cells #[.string (strB (bitsB t.init))] 9))) := Lib.hid (HB2.out.alloc HB2.out.size _)
  have HA3 : Hid (Blk (w2.alloc (.cells #[.string (strB (bitsB t.init))] 9)) w.heap.size 26 #[.slice AI nI cI, .slice AR n cR, .int .i64 lp]) := Lib.hid (HA2.out.alloc _)
  have HO3 := Lib.hid (HS2.out.own HB2.out.size (by simp [maxLen]))
  simp only [List.length_cons, List.length_nil, Nat.zero_add] at HO3
  generalize w2.alloc (.cells #[.string (strB (bitsB t.init))] 9) = W3 at HB3 HA3 HO3 ⊢
  clear c0 c1 c2 HS2
  obtain ⟨c0, c1, c2⟩ := trio_of HA3.out
  go_upto_region 3 with (fail)
  clear c0 c1 c2
  go_loopg [3, 13] n (fun j sv3 iv wx => ∃ (k : Nat), k ≤ n ∧ iv = .int .i64 k ∧ j = n - k ∧ Blk wx w.heap.size 26 #[.slice AI nI cI, .slice AR n cR, .int .i64 lp] ∧ wx.ownsRow w.heap.size 9 1 sv3 (k + 1) ((bitsB t.init :: (t.rows.take k).map bitsB).map sv) ∧ Below w.heap.size w wx)
  case atStart => exact ⟨0, Nat.zero_le _, rfl, rfl, HA3.out, HO3.out, HB3.out⟩
  case round =>
    obtain ⟨k, hk, rfl, hgk, hA, hO, hbw⟩ := hrel
    subst hgk
    obtain ⟨As, cs, hse⟩ := own_slice_k hO
    subst hse
    have HA := Lib.hid hA
    have HO := Lib.hid hO
    have HBW := Lib.hid hbw
    clear hA hO hbw HA3 HO3 HB3
    by_cases hlt : k < n
    · obtain ⟨row, hz⟩ : ∃ row, t.rows[k]? = some row := ⟨_, List.getElem?_eq_getElem (by rw [HN.out]; exact hlt)⟩
      obtain ⟨b, off, u, e, hb, hu, hru⟩ := HRR.out k row hz
      subst e
      have hcu := (HBW.out.cell (p := ⟨b, off + k, none⟩) hb).trans hu
      have hk0 : (0 : Int) ≤ (k : Int) := by omega
      have hk1 : (k : Int) < (n : Int) := by omega
      have HTK : Hid ((bitsB t.init :: (t.rows.take (k + 1)).map bitsB).map sv = (bitsB t.init :: (t.rows.take k).map bitsB).map sv ++ [.string (strB (bitsB row))]) := Lib.hid (by rw [List.take_add_one, hz]; simp [sv])
      have HRW := Lib.hid (HRL.out wr u row HBW.out hru (HRS.out row (List.mem_of_getElem? hz)))
      clear hz hu hru hb
      go_wp2_with (first
        | (go_at_call 42; refine HRW.out.mono ?_; rintro e w5 ⟨rfl, hb5⟩; have HB5 := Lib.hid (bt HBW.out (Nat.le_refl _) hb5); have HA5 := Lib.hid (Blk.below HA.out hb5 (Blk.lt HA.out)); have HO5 := Lib.hid (own_below HO.out hb5); clear hb5)
        | (at_builtin; refine wpList_append_any _ rfl (.tmp 17) (.tmp 20) _ rfl w.heap.size 9 iS _ 1 16 Tryd.underlying64 HIS.out.1 HIS.out.2.1 HIS.out.2.2.1 HIS.out.2.2.2 rfl (by omega) (.slice As (k + 1) cs) (k + 1) ((bitsB t.init :: (t.rows.take k).map bitsB).map sv) rfl (HO5.out.alloc _) (w5.heap.size + 1) (some ⟨w5.heap.size, 0, none⟩) 1 1 [.string (strB (bitsB row))] rfl (reads_one _ _ _) (by simp [Value.oneCell']) (by simp only [maxLen]; omega) (by omega) (by have := HB5.out.size; simp; omega) ?_; intro v7 w7 hown7 hg7 hat7; have HO7 := Lib.hid hown7; have HA7 := Lib.hid ((HA5.out.alloc _).grown hg7 (fun e => own_blk_ne HO5.out HA5.out (by decide) e.symm)); have HB7 := Lib.hid ((HB5.out.alloc HB5.out.size _).grown hg7 (by have := HB5.out.size; simp; omega) (fun k hk => (HO5.out.lt k hk).1)); clear hown7 hg7 hat7))
      go_roundg (n - (k + 1))
      case measure => omega
      case rel => exact ⟨k + 1, by omega, by go_num, rfl, HA7.out, by rw [HTK.out]; exact HO7.out, HB7.out⟩
    · have hk1 : ¬ (k : Int) < (n : Int) := by omega
      have hke : k = n := by omega
      have hO2 := HO.out
      rw [List.take_of_length_le (by rw [HN.out, hke]; exact Nat.le_refl _), hke] at hO2
      have HO2 := Lib.hid hO2
      rw [hke]
      clear hO2 HO hke hk hk1
      obtain ⟨c0, c1, c2⟩ := trio_of HA.out
      by_cases hl1 : lp = -1
      · have hlz : (lp != (-1 : Int)) = false := by simpa using hl1
        have HF : Hid (linesT t = bitsB t.init :: t.rows.map bitsB) := Lib.hid (by unfold linesT loopT; rw [HLP.out, if_pos hl1, List.append_nil])
        clear hl1
        go_wp2
        go_ret
        exact ⟨HBW.out, _, rfl, by rw [HF.out, show (bitsB t.init :: t.rows.map bitsB).length = n + 1 from by simp [HN.out]]; exact HO2.out⟩
      · have hlz : (lp != (-1 : Int)) = true := by simpa using hl1
        obtain ⟨q, rfl⟩ : ∃ q : Nat, lp = q := ⟨lp.toNat, by have := HL.out; omega⟩
        have HF : Hid (linesT t = (bitsB t.init :: t.rows.map bitsB) ++ [loopW ++ dec q]) := Lib.hid (by unfold linesT loopT; rw [HLP.out, if_neg hl1, Int.toNat_natCast]; rfl)
        have hq : q < 512 := by have := HL.out; omega
        have HTX := Lib.hid (cat_strB loopW (dec q))
        have HI := Lib.hid (HIT.out wr q HBW.out hq)
        have hsz : (strB (dec q)).size ≤ 5 := by rw [strB_size]; exact dec_len 4 q (by omega)
        have hlw : (⟨#[99, 32, 108, 111, 111, 112, 32]⟩ : ByteArray).size = 7 := rfl
        generalize strB (dec q) = T at HI HTX hsz
        have hnl : ¬ 9223372036854775807 < 7 + T.size := by omega
        clear hl1
        go_wp2_with (first
          | (go_at_call 27; refine HI.out.mono ?_; rintro e w5 ⟨hb5, rfl⟩; have HB5 := Lib.hid (bt HBW.out (Nat.le_refl _) hb5); have HO5 := Lib.hid (own_below HO2.out hb5); clear hb5)
          | (at_builtin; refine wpList_append_any _ rfl (.tmp 26) (.tmp 31) _ rfl w.heap.size 9 iS _ 1 16 Tryd.underlying64 HIS.out.1 HIS.out.2.1 HIS.out.2.2.1 HIS.out.2.2.2 rfl (by omega) (.slice As (n + 1) cs) (n + 1) ((bitsB t.init :: t.rows.map bitsB).map sv) rfl (HO5.out.alloc _) (w5.heap.size + 1) (some ⟨w5.heap.size, 0, none⟩) 1 1 [.string (⟨#[99, 32, 108, 111, 111, 112, 32]⟩ ++ T)] rfl (reads_one _ _ _) (by simp [Value.oneCell']) (by simp only [maxLen]; omega) (by omega) (by have := HB5.out.size; simp; omega) ?_; intro v7 w7 hown7 hg7 hat7; have HO7 := Lib.hid hown7; have HB7 := Lib.hid ((HB5.out.alloc HB5.out.size _).grown hg7 (by have := HB5.out.size; simp; omega) (fun k hk => (HO5.out.lt k hk).1)); clear hown7 hg7 hat7))
        go_ret
        refine ⟨HB7.out, _, rfl, ?_⟩
        rw [HF.out, show ((bitsB t.init :: t.rows.map bitsB) ++ [loopW ++ dec q]).length = n + 1 + 1 from by simp [HN.out], List.map_append]
        have h9 := HO7.out
        have h8 : (⟨#[99, 32, 108, 111, 111, 112, 32]⟩ : ByteArray) ++ T = strB (loopW ++ dec q) := HTX.out
        rw [h8] at h9
        exact h9
end Go.Proofs.YtjbglgmbnjdhcaaDoor

namespace Go.Proofs.YtjbglgmbnjdhcaaDoor
open Go.RowKit

def encX (b : Bs) : List Value := [sv b]
theorem lenX (b : Bs) : (encX b).length = 1 := rfl
theorem flat_X (l : List Bs) : l.flatMap encX = l.map sv := by induction l with
  | nil => rfl
  | cons a r ih => rw [List.flatMap_cons, ih]; rfl
theorem join_lines : ∀ ls : List Bs, ls ≠ [] → Lib.join ls [10] ++ [10] = (ls.map lineL).flatten
  | [], h => absurd rfl h
  | [a], _ => by simp [Lib.join_one, lineL]
  | a :: b :: r, _ => by
    have ih := join_lines (b :: r) (by simp)
    rw [Lib.join_cons]
    rw [Lib.join_cons] at ih
    rw [List.map_cons, List.flatten_cons, ← ih]
    simp [Lib.joinTail, lineL]
def linesW (x : Wit) : List Bs := [dec x.st.toNat, propsL x.ps] ++ ((if x.st = 1 then linesT x.tr else []) ++ [[46]])
theorem linesW_ne (x : Wit) : linesW x ≠ [] := by simp [linesW]
theorem textW_lines (x : Wit) : textW x = Lib.join (linesW x) [10] ++ [10] := by
  rw [join_lines _ (linesW_ne x)]
  unfold textW linesW
  by_cases h : x.st = 1
  · rw [if_pos h, if_pos h]
    have e : ((linesT x.tr).map lineL).flatten = lineL (bitsB x.tr.init) ++ rowsL x.tr.rows ++ loopL x.tr.loop := by
      unfold linesT rowsL loopL loopT
      rw [List.map_cons, List.flatten_cons, List.map_append, List.flatten_append, List.map_map]
      by_cases h2 : x.tr.loop = -1
      · rw [if_pos h2, if_pos h2]; simp; rfl
      · rw [if_neg h2, if_neg h2]; simp; rfl
    simp only [List.map_append, List.flatten_append, e]
    simp
  · rw [if_neg h, if_neg h]
    simp
theorem join_le {ls : List Bs} {M : Nat} (h : ∀ l ∈ ls, l.length ≤ M) : (Lib.join ls [10]).length ≤ ls.length * (M + 1) := by
  have key : ∀ qs : List Bs, (∀ l ∈ qs, l.length ≤ M) → Lib.lens qs ≤ qs.length * M := by
    intro qs
    induction qs with
    | nil => intro _; simp [Lib.lens]
    | cons p r ih =>
      intro hq
      have h1 := ih (fun p hp => hq p (List.mem_cons_of_mem _ hp))
      have h2 := hq p (List.mem_cons_self ..)
      simp only [Lib.lens, List.map_cons, List.sum_cons, List.length_cons, Nat.add_mul, Nat.one_mul] at h1 ⊢
      omega
  cases ls with
  | nil => simp [Lib.join_nil]
  | cons p r =>
    have h1 := key _ h
    rw [Lib.join_length]
    simp only [List.length_cons, List.length_nil, Nat.add_mul, Nat.mul_add, Nat.one_mul, Nat.mul_one] at h1 ⊢
    omega
theorem strs_at {w : World} {v : Value} {ls : List Bs} (h : RowE 1 encX w v ls) (hne : ls ≠ []) : ∃ b off c, v = .slice (some ⟨b, off, none⟩) ls.length c ∧ b < w.heap.size ∧ ls.length ≤ c ∧ ∀ (k : Nat) (z : Bs), ls[k]? = some z → w.cell? ⟨b, off + k, none⟩ = some (.string (strB z)) := by
  obtain ⟨A, c, rfl, hcp, _, h6⟩ := h
  obtain ⟨y, hy⟩ : ∃ y, ls[0]? = some y := by
    cases ls with
    | nil => exact absurd rfl hne
    | cons a r => exact ⟨a, rfl⟩
  obtain ⟨b, off, rfl, hb, _⟩ := h6 0 y hy
  refine ⟨b, off, c, rfl, hb, hcp, fun k z hz => ?_⟩
  obtain ⟨b2, off2, e, _, hc⟩ := h6 k z hz
  injection e with e
  injection e with e1 e2
  subst e1 e2
  have := hc 0 _ rfl
  simp only [Nat.add_zero, Nat.mul_one] at this
  exact this
theorem join_any (w : World) (v : Value) (ls : List Bs) (h : RowE 1 encX w v ls) (hne : ls ≠ []) (hN : ls.length ≤ 100000) (hlen : (Lib.join ls [10]).length ≤ 140737488355328) :
    Calls Tryd.prog 30 #[v, .string ⟨#[10]⟩] w fun e w' => e = .returned (.string (strB (Lib.join ls [10]))) ∧ Below w.heap.size w w' := by
  obtain ⟨b, off, c, rfl, hb, hcp, hc⟩ := strs_at h hne
  have e1 : (ls.map strB).map (·.data.toList) = ls := by
    rw [List.map_map, show ((fun x : ByteArray => x.data.toList) ∘ strB) = id from funext fun x => by simp [strB], List.map_id]
  have := Tryd.strings_Join b off c (ls.map strB) (strB [10]) w (fun j x hx => by
    rw [List.getElem?_map, Option.map_eq_some_iff] at hx
    obtain ⟨y, hy, rfl⟩ := hx
    exact hc j y hy) hb (by simp; omega) (by simpa using hcp) (by
      rw [e1]
      exact hlen)
  rw [e1, List.length_map] at this
  exact this
structure WtOk (x : Wit) : Prop where
  p : ∀ p ∈ x.ps, okP p
  n : x.ps.length ≤ 16384
  s : 0 ≤ x.st ∧ x.st ≤ 2
  t : x.st = 1 → x.tr.init.length ≤ 16384 ∧ (∀ r ∈ x.tr.rows, r.length ≤ 16384) ∧ x.tr.rows.length ≤ 512 ∧ -1 ≤ x.tr.loop ∧ x.tr.loop < 512
theorem witE_ok {x : Wit} {L n : Int} (h : witE x L n = 0) : WtOk x ∧ 0 ≤ L ∧ L ≤ 16384 ∧ 0 ≤ n ∧ n ≤ 16384 := by
  unfold witE at h
  split at h
  · cases h
  rename_i hc
  simp only [Decidable.not_not] at hc
  split at h
  · cases h
  rename_i hs
  split at h
  · cases h
  rename_i hn
  split at h
  · cases h
  rename_i ho
  split at h
  · cases h
  rename_i hf
  have ho2 : okPs x.ps = true := by simpa using ho
  have hf2 : fitW x L.toNat n.toNat = true := by simpa using hf
  refine ⟨⟨?_, by omega, by omega, fun h1 => ?_⟩, hc⟩
  · unfold okPs at ho2
    exact (of_decide_eq_true ho2).2.1
  · unfold fitW at hf2
    rw [if_pos h1] at hf2
    obtain ⟨a1, a2, a3, a4, a5, a6⟩ := of_decide_eq_true hf2
    exact ⟨by omega, fun r hr => by have := a4 r hr; omega, a3, a5, by omega⟩
theorem linesW_le {x : Wit} (h : WtOk x) : (∀ l ∈ linesW x, l.length ≤ 200000) ∧ (linesW x).length ≤ 600 := by
  have h1 := dec_len 0 x.st.toNat (by have := h.s; omega)
  have h2 := joinW_len h.p
  have h3 := h.n
  have hL : x.st = 1 → (∀ l ∈ linesT x.tr, l.length ≤ 200000) ∧ (linesT x.tr).length ≤ 514 := fun hs => by
    obtain ⟨a1, a2, a3, a4, a5⟩ := h.t hs
    unfold linesT loopT
    constructor
    · intro l hl
      rcases List.mem_cons.1 hl with rfl | hl
      · rw [bits_length]; omega
      · rcases List.mem_append.1 hl with hl | hl
        · obtain ⟨r, hr, rfl⟩ := List.mem_map.1 hl
          have := a2 r hr
          rw [bits_length]; omega
        · split at hl
          · cases hl
          · simp only [List.mem_singleton] at hl
            have := dec_len 4 x.tr.loop.toNat (by omega)
            rw [hl, List.length_append]
            simp [loopW]
            omega
    · split <;> simp <;> omega
  unfold linesW
  constructor
  · intro l hl
    rcases List.mem_append.1 hl with hl | hl
    · simp only [List.mem_cons, List.not_mem_nil, or_false] at hl
      rcases hl with rfl | rfl
      · omega
      · omega
    · rcases List.mem_append.1 hl with hl | hl
      · split at hl
        · rename_i hs
          exact (hL hs).1 l hl
        · cases hl
      · simp only [List.mem_singleton] at hl
        rw [hl]; simp
  · by_cases hs : x.st = 1
    · rw [if_pos hs]
      have := (hL hs).2
      simp
      omega
    · rw [if_neg hs]
      simp
set_option maxHeartbeats 4000000 in
set_option maxRecDepth 100000 in
theorem textOf_any (w : World) (B : Nat) (x : Wit) (vp vi vr : Value) (h : WtIn w x vp vi vr) (hx : WtOk x) (lib : LibB B w) (hB : B ≤ w.heap.size) :
    Calls Tryd.prog 15 #[.agg #[.int .i64 x.st, vp, vi, vr, .int .i64 x.tr.loop]] w fun e w' => e = .returned (.string (strB (textW x))) ∧ Below w.heap.size w w' := by
  obtain ⟨iS, hiS, hSz0, hSz1, hSz2⟩ := info_of2 infoStr
  have HIS := Lib.hid (And.intro hiS (And.intro hSz0 (And.intro hSz1 hSz2)))
  clear hiS hSz0 hSz1 hSz2
  have HPL := Lib.hid (fun (wx : World) (hb : Below w.heap.size w wx) => propsLine_any wx B vp x.ps (h.p.below hb) hx.p hx.n (lib.up hB hb) (Nat.le_trans hB hb.size))
  have HTL := Lib.hid (fun (wx : World) (hb : Below w.heap.size w wx) (h1 : x.st = 1) => traceLines_any wx B ⟨vi, vr⟩ x.tr (h.t.below hb) (hx.t h1).1 (hx.t h1).2.1 (hx.t h1).2.2.1 (hx.t h1).2.2.2 (lib.up hB hb) (Nat.le_trans hB hb.size))
  obtain ⟨AP, cP, eP⟩ := slP_form h.p
  obtain ⟨AR, cR, eR, _, _⟩ := h.t.r.at_
  obtain ⟨AI, nI, cI, eI⟩ := slO_form h.t.i
  simp only at eR eI
  subst eP eR eI
  have HLE := Lib.hid (linesW_le hx)
  have HJB : Hid ((Lib.join (linesW x) [10]).length ≤ 600 * 200001) := Lib.hid (by
    exact Nat.le_trans (join_le (HLE.out.1)) (Nat.mul_le_mul_right 200001 HLE.out.2))
  have HJS : Hid ((strB (Lib.join (linesW x) [10])).size ≤ 1000000000) := Lib.hid (by rw [strB_size]; have := HJB.out; omega)
  have HJN := Lib.hid (fun (wx : World) (v : Value) (_ : Below w.heap.size w wx) (h : RowE 1 encX wx v (linesW x)) => join_any wx v (linesW x) h (linesW_ne x) (by have := HLE.out.2; omega) (by have := HJB.out; omega))
  have hcat := cat_strB (Lib.join (linesW x) [10]) [10]
  obtain ⟨T, hT⟩ : ∃ T, strB (Lib.join (linesW x) [10]) = T := ⟨_, rfl⟩
  rw [hT] at HJN HJS hcat
  have HCT := Lib.hid hcat
  have hnl : ¬ 9223372036854775807 < T.size + 1 := by have := HJS.out; omega
  clear hcat hT
  have HTW := Lib.hid (textW_lines x)
  obtain ⟨st, hst⟩ : ∃ k : Nat, x.st = k := ⟨x.st.toNat, by have := hx.s; omega⟩
  have HIT := Lib.hid (fun (wx : World) (hb : Below w.heap.size w wx) => Itoa_any wx B st (by have := hx.s; omega) (lib.up hB hb))
  obtain ⟨nR, hnR⟩ : ∃ k, x.tr.rows.length = k := ⟨_, rfl⟩
  obtain ⟨np, hnp⟩ : ∃ k, x.ps.length = k := ⟨_, rfl⟩
  obtain ⟨lp, hlp⟩ : ∃ k, x.tr.loop = k := ⟨_, rfl⟩
  rw [hnp] at HPL
  rw [hlp, hnR] at HTL
  rw [hst, hlp, hnR, hnp]
  have HST := Lib.hid hst
  have HA0 := Lib.hid (Blk.new w 28 #[.int .i64 (st : Int), .slice AP np cP, .slice AI nI cI, .slice AR nR cR, .int .i64 lp])
  have HB0 : Hid (Below w.heap.size w (w.alloc (.cells #[.int .i64 (st : Int), .slice AP np cP, .slice AI nI cI, .slice AR nR cR, .int .i64 lp] 28))) := Lib.hid ((Below.refl _ _).alloc (Nat.le_refl _) _)
  clear h hx lib hst hnR hnp hlp
  go_enter Tryd.func15, Tryd.ntmps15
  go_upto_region 1 with (fail)
  generalize w.alloc (.cells #[.int .i64 (st : Int), .slice AP np cP, .slice AI nI cI, .slice AR nR cR, .int .i64 lp] 28) = X at HA0 HB0 ⊢
  refine wp_region_T (by kernel_rfl) (fun w' => w'.cell? ⟨w.heap.size, 0, none⟩ = some (.int .i64 (st : Int)) ∧ w'.cell? ⟨w.heap.size, 1, none⟩ = some (.slice AP np cP)) 8 ?_
  have HBD : Hid (Below w.heap.size w X.drew) := Lib.hid (bt HB0.out (Nat.le_refl _) (Below.refl _ _).drew)
  have HAD : Hid (Blk X.drew w.heap.size 28 #[.int .i64 (st : Int), .slice AP np cP, .slice AI nI cI, .slice AR nR cR, .int .i64 lp]) := Lib.hid (Blk.below HA0.out (Below.refl _ _).drew (Blk.lt HA0.out))
  clear HB0 HA0
  generalize X.drew = Y at HBD HAD ⊢
  have hHeld := And.intro (five_of HAD.out).1 (five_of HAD.out).2.1
  refine wpAnyT_take (i := 0) (oi := { dst := some 4, op := Op.fieldAddr 28 (Operand.tmp 1) 0, type := 0, pos := "write.go:19", after := #[], guard := none }) (v := ?v0r1q1) rfl (by kernel_rfl) (fun _ _ _ h => h) (by rfl) hHeld ?h0r1q1 ?_
  case h0r1q1 => (intro w' hSw; (try dsimp only at hSw); go_simp; try with_reducible rfl)
  (try simp only [Act.put, List.setIfInBounds_toArray, List.set_cons_zero, List.set_cons_succ])
  refine wpAnyT_take (i := 1) (oi := { dst := some 5, op := Op.load 3 (Operand.tmp 4), type := 3, pos := "write.go:19", after := #[{ on := 0, ground := Ground.data }], guard := none }) (v := ?v1r1q1) rfl (by kernel_rfl) (fun _ _ _ h => h) (by rfl) hHeld ?h1r1q1 ?_
  case h1r1q1 => (intro w' hSw; (try dsimp only at hSw); go_simp; try with_reducible rfl)
  (try simp only [Act.put, List.setIfInBounds_toArray, List.set_cons_zero, List.set_cons_succ])
  refine wpAnyT_take (i := 3) (oi := { dst := some 7, op := Op.fieldAddr 28 (Operand.tmp 1) 1, type := 0, pos := "write.go:19", after := #[], guard := none }) (v := ?v3r1q2) rfl (by kernel_rfl) (fun _ _ _ h => h) (by rfl) hHeld ?h3r1q2 ?_
  case h3r1q2 => (intro w' hSw; (try dsimp only at hSw); go_simp; try with_reducible rfl)
  (try simp only [Act.put, List.setIfInBounds_toArray, List.set_cons_zero, List.set_cons_succ])
  refine wpAnyT_take (i := 4) (oi := { dst := some 8, op := Op.load 22 (Operand.tmp 7), type := 22, pos := "write.go:19", after := #[{ on := 3, ground := Ground.data }], guard := none }) (v := ?v4r1q2) rfl (by kernel_rfl) (fun _ _ _ h => h) (by rfl) hHeld ?h4r1q2 ?_
  case h4r1q2 => (intro w' hSw; (try dsimp only at hSw); go_simp; try with_reducible rfl)
  (try simp only [Act.put, List.setIfInBounds_toArray, List.set_cons_zero, List.set_cons_succ])
  clear hHeld
  refine wpAnyT_one (i := 2) (o := { dst := some 6, op := Op.call { callee := Callee.value (Operand.func 27), args := #[Operand.tmp 5], argTypes := #[3] }, type := 9, pos := "write.go:19", after := #[{ on := 1, ground := Ground.data }], guard := none }) rfl (by kernel_rfl) (fun K hK => ?_)
  go_simp
  go_at_call 27
  refine (HIT.out Y HBD.out).mono ?_
  rintro e w1 ⟨hb1, rfl⟩
  have HB1 := Lib.hid (bt HBD.out (Nat.le_refl _) hb1)
  have HA1 := Lib.hid (Blk.below HAD.out hb1 (Blk.lt HAD.out))
  refine hK.out _ _ (fun _ => And.intro (five_of HA1.out).1 (five_of HA1.out).2.1) ?_
  clear hK K hb1 HAD HBD
  (try simp only [Act.put, List.setIfInBounds_toArray, List.set_cons_zero, List.set_cons_succ])
  refine wpAnyT_one (i := 5) (o := { dst := some 9, op := Op.call { callee := Callee.value (Operand.func 28), args := #[Operand.tmp 8], argTypes := #[22] }, type := 9, pos := "write.go:19", after := #[{ on := 4, ground := Ground.data }, { on := 2, ground := Ground.chain }], guard := none }) rfl (by kernel_rfl) (fun K hK => ?_)
  go_simp
  go_at_call 28
  refine (HPL.out w1 HB1.out).mono ?_
  rintro e w2 ⟨rfl, hb2⟩
  have HB2 := Lib.hid (bt HB1.out (Nat.le_refl _) hb2)
  have HA2 := Lib.hid (Blk.below HA1.out hb2 (Blk.lt HA1.out))
  refine hK.out _ _ (fun _ => And.intro (five_of HA2.out).1 (five_of HA2.out).2.1) ?_
  clear hK K hb2 HA1 HB1
  (try simp only [Act.put, List.setIfInBounds_toArray, List.set_cons_zero, List.set_cons_succ])
  have HS3 : Hid (SB (w2.alloc (.cells #[.string (strB (dec st)), .string (strB (propsL x.ps))] 9)) w2.heap.size [dec st, propsL x.ps]) := Lib.hid (Blk.new w2 _ _)
  have HO3 := Lib.hid (HS3.out.own HB2.out.size (by simp [maxLen]))
  simp only [List.length_cons, List.length_nil, Nat.zero_add, Nat.reduceAdd] at HO3
  have HB3 : Hid (Below w.heap.size w (w2.alloc (.cells #[.string (strB (dec st)), .string (strB (propsL x.ps))] 9))) := Lib.hid (HB2.out.alloc HB2.out.size _)
  have HA3 : Hid (Blk (w2.alloc (.cells #[.string (strB (dec st)), .string (strB (propsL x.ps))] 9)) w.heap.size 28 #[.int .i64 (st : Int), .slice AP np cP, .slice AI nI cI, .slice AR nR cR, .int .i64 lp]) := Lib.hid (HA2.out.alloc _)
  refine wpAnyT_one (i := 6) (o := { dst := some 10, op := Op.buildSlice 64 2 #[(0, Operand.tmp 6), (1, Operand.tmp 9)], type := 64, pos := "write.go:19", after := #[{ on := 2, ground := Ground.data }, { on := 5, ground := Ground.data }], guard := none }) rfl (by kernel_rfl) (fun K hK => ?_)
  go_simp
  refine hK.out _ _ (fun _ => And.intro (five_of HA3.out).1 (five_of HA3.out).2.1) ?_
  clear hK K
  (try simp only [Act.put, List.setIfInBounds_toArray, List.set_cons_zero, List.set_cons_succ])
  refine wpAnyT_one (i := 7) (o := { dst := some 3, op := Op.assign (Operand.tmp 10), type := 64, pos := "write.go:19", after := #[{ on := 6, ground := Ground.data }, { on := 5, ground := Ground.chain }, { on := 0, ground := Ground.phase }, { on := 1, ground := Ground.phase }, { on := 2, ground := Ground.phase }, { on := 3, ground := Ground.phase }, { on := 4, ground := Ground.phase }, { on := 5, ground := Ground.phase }, { on := 6, ground := Ground.phase }], guard := none }) rfl (by kernel_rfl) (fun K hK => ?_)
  go_simp
  refine hK.out _ _ (fun _ => And.intro (five_of HA3.out).1 (five_of HA3.out).2.1) ?_
  clear hK K
  (try simp only [Act.put, List.setIfInBounds_toArray, List.set_cons_zero, List.set_cons_succ])
  refine wpAnyT_done (by kernel_rfl) ?_
  generalize w2.alloc (.cells #[.string (strB (dec st)), .string (strB (propsL x.ps))] 9) = W3 at HB3 HA3 HO3 HS3 ⊢
  generalize w2.heap.size = g3 at HO3 HS3 ⊢
  clear HS3
  obtain ⟨c0, c1, c2, c3, c4⟩ := five_of HA3.out
  by_cases h1 : st = 1
  · have hsz : ((st : Int) == (1 : Int)) = true := by simpa using (by omega : (st : Int) = 1)
    have HTX := Lib.hid (HTL.out W3 HB3.out (by rw [HST.out]; omega))
    have HLW : Hid (linesW x = ([dec st, propsL x.ps] ++ linesT x.tr) ++ [[46]]) := Lib.hid (by unfold linesW; rw [if_pos (by rw [HST.out]; omega), HST.out, Int.toNat_natCast]; simp)
    have HTN : Hid ((linesT x.tr).length ≤ 600) := Lib.hid (by have h9 := HLE.out.2; rw [HLW.out] at h9; simp at h9; omega)
    clear h1
    go_upto_region 4 with (first
      | (go_at_call 29; refine HTX.out.mono ?_; rintro e w4 ⟨hb4, v4, rfl, ho4⟩; have HOT := Lib.hid ho4; obtain ⟨A4, k4, he4, hr4⟩ := (own_rowe (enc := encX) lenX (by rw [flat_X]; exact ho4)).reads lenX (by omega); subst he4; have HR4 := Lib.hid hr4; have HB4 := Lib.hid (bt HB3.out (Nat.le_refl _) hb4); have HO4 := Lib.hid (own_below HO3.out hb4); clear hb4 ho4 hr4)
      | (at_builtin; refine wpList_append_any _ rfl (.tmp 14) (.tmp 17) _ rfl w.heap.size 9 iS _ 1 16 Tryd.underlying64 HIS.out.1 HIS.out.2.1 HIS.out.2.2.1 HIS.out.2.2.2 rfl (by omega) (.slice (some ⟨g3, 0, none⟩) 2 2) 2 ([dec st, propsL x.ps].map sv) rfl HO4.out w4.heap.size A4 (linesT x.tr).length k4 ((linesT x.tr).flatMap encX) rfl HR4.out (fun u hu => by rw [flat_X] at hu; obtain ⟨y, _, rfl⟩ := List.mem_map.1 hu; rfl) (by have := HTN.out; simp only [maxLen]; omega) (by have := HTN.out; omega) HB4.out.size ?_; intro v5 w5 hown5 hg5 hat5; obtain ⟨A5, c5, he5⟩ := own_slice_k hown5; subst he5; have HOK : Hid (w5.ownsRow w.heap.size 9 1 (.slice A5 (2 + (linesT x.tr).length) c5) (2 + (linesT x.tr).length) (([dec st, propsL x.ps] ++ linesT x.tr).map sv)) := Lib.hid (by rw [flat_X] at hown5; rw [List.map_append]; exact hown5); have HBK := Lib.hid (HB4.out.grown hg5 HB4.out.size (fun k hk => (HO4.out.lt k hk).1)); clear hown5 hg5 hat5))
    have HLS : Hid (([dec st, propsL x.ps] ++ linesT x.tr).length = 2 + (linesT x.tr).length) := Lib.hid (by simp; omega)
    clear c0 c1 c2 c3 c4
    generalize ([dec st, propsL x.ps] ++ linesT x.tr) = ls at HLW HOK HLS
    generalize 2 + (linesT x.tr).length = m at HOK HLS ⊢
    have HMN : Hid (m ≤ 600) := Lib.hid (by have h9 := HLE.out.2; rw [HLW.out] at h9; have := HLS.out; simp only [List.length_append] at h9; omega)
    go_wp2_with (first
      | (go_at_call 30; (refine (HJN.out w6 _ HB6.out HRE.out).mono ?_; rintro e w7 ⟨rfl, hb7⟩; have HB7 := Lib.hid (bt HB6.out (Nat.le_refl _) hb7); clear hb7))
      | (at_builtin; refine wpList_append_any _ rfl (.tmp 19) (.tmp 20) _ rfl w.heap.size 9 iS _ 1 16 Tryd.underlying64 HIS.out.1 HIS.out.2.1 HIS.out.2.2.1 HIS.out.2.2.2 rfl (by omega) (.slice A5 m c5) m (ls.map sv) rfl (HOK.out.alloc _) (w5.heap.size + 1) (some ⟨w5.heap.size, 0, none⟩) 1 1 [.string ⟨#[46]⟩] rfl (reads_one _ _ _) (by simp [Value.oneCell']) (by have := HMN.out; simp only [maxLen]; omega) (by have := HMN.out; omega) (by have := HBK.out.size; simp; omega) ?_; intro v6 w6 hown6 hg6 hat6; obtain ⟨A6, c6, he6⟩ := own_slice_k hown6; subst he6; have HO6 : Hid (w6.ownsRow w.heap.size 9 1 (.slice A6 (m + 1) c6) (linesW x).length ((linesW x).map sv)) := Lib.hid (by rw [HLW.out, List.map_append, List.length_append, HLS.out]; exact hown6); have HRE := Lib.hid (own_rowe (enc := encX) (zs := linesW x) lenX (by rw [flat_X]; exact HO6.out)); have HB6 := Lib.hid ((HBK.out.alloc HBK.out.size _).grown hg6 (by have := HBK.out.size; simp; omega) (fun k hk => (HOK.out.lt k hk).1)); clear hown6 hg6 hat6))
    go_ret
    refine ⟨?_, HB7.out⟩
    rw [HTW.out, ← HCT.out]
    rfl
  · have hsz : ((st : Int) == (1 : Int)) = false := by simpa using (by omega : ¬ (st : Int) = 1)
    have HLW : Hid (linesW x = [dec st, propsL x.ps] ++ [[46]]) := Lib.hid (by unfold linesW; rw [if_neg (by rw [HST.out]; omega), HST.out, Int.toNat_natCast]; simp)
    have HLS : Hid ([dec st, propsL x.ps].length = 2) := Lib.hid rfl
    have HOK := HO3
    have HBK := HB3
    clear h1 HO3 HB3
    go_upto_region 4 with (fail)
    clear c0 c1 c2 c3 c4
    generalize [dec st, propsL x.ps] = ls at HLW HOK HLS
    have HMM : Hid (2 = 2) := Lib.hid rfl
    have HMN : Hid (2 ≤ 600) := Lib.hid (by have h9 := HLE.out.2; rw [HLW.out] at h9; have := HLS.out; simp only [List.length_append] at h9; omega)
    go_wp2_with (first
      | (go_at_call 30; (refine (HJN.out w6 _ HB6.out HRE.out).mono ?_; rintro e w7 ⟨rfl, hb7⟩; have HB7 := Lib.hid (bt HB6.out (Nat.le_refl _) hb7); clear hb7))
      | (at_builtin; refine wpList_append_any _ rfl (.tmp 19) (.tmp 20) _ rfl w.heap.size 9 iS _ 1 16 Tryd.underlying64 HIS.out.1 HIS.out.2.1 HIS.out.2.2.1 HIS.out.2.2.2 rfl (by omega) (.slice (some ⟨g3, 0, none⟩) 2 2) 2 (ls.map sv) rfl (HOK.out.alloc _) (W3.heap.size + 1) (some ⟨W3.heap.size, 0, none⟩) 1 1 [.string ⟨#[46]⟩] rfl (reads_one _ _ _) (by simp [Value.oneCell']) (by have := HMN.out; simp only [maxLen]; omega) (by have := HMN.out; omega) (by have := HBK.out.size; simp; omega) ?_; intro v6 w6 hown6 hg6 hat6; obtain ⟨A6, c6, he6⟩ := own_slice_k hown6; subst he6; have HO6 : Hid (w6.ownsRow w.heap.size 9 1 (.slice A6 (2 + 1) c6) (linesW x).length ((linesW x).map sv)) := Lib.hid (by rw [HLW.out, List.map_append, List.length_append, HLS.out]; exact hown6); have HRE := Lib.hid (own_rowe (enc := encX) (zs := linesW x) lenX (by rw [flat_X]; exact HO6.out)); have HB6 := Lib.hid ((HBK.out.alloc HBK.out.size _).grown hg6 (by have := HBK.out.size; simp; omega) (fun k hk => (HOK.out.lt k hk).1)); clear hown6 hg6 hat6))
    go_ret
    refine ⟨?_, HB7.out⟩
    rw [HTW.out, ← HCT.out]
    rfl
end Go.Proofs.YtjbglgmbnjdhcaaDoor

namespace Go.Proofs.YtjbglgmbnjdhcaaDoor
open Go.RowKit

/-- What is written of a witness, and what is told. -/
def prW (x : Wit) (L n : Int) : Bs × Int := if witE x L n ≠ 0 then ([], witE x L n) else if 262144 < (textW x).length then ([], 2) else (textW x, 0)
set_option maxHeartbeats 4000000 in
set_option maxRecDepth 100000 in
theorem print_any (w : World) (B : Nat) (x : Wit) (vp vi vr : Value) (h : WtIn w x vp vi vr) (hw : ∀ p ∈ x.ps, (0 ≤ p.1 ∧ p.1 ≤ 255) ∧ I64 p.2) (L n : Int) (lib : LibB B w) (hB : B ≤ w.heap.size) :
    Calls Tryd.prog 7 #[.agg #[.int .i64 x.st, vp, vi, vr, .int .i64 x.tr.loop], .int .i64 L, .int .i64 n] w fun e w' => e = .returned (.tuple #[.string (strB (prW x L n).1), .int .i64 (prW x L n).2]) ∧ Below w.heap.size w w' := by
  have HCK := Lib.hid (fun (wx : World) (hb : Below w.heap.size w wx) => check_any wx x vp vi vr (h.below hb) hw L n)
  have HTX := Lib.hid (fun (wx : World) (hb : Below w.heap.size w wx) (hx : WtOk x) => textOf_any wx B x vp vi vr (h.below hb) hx (lib.up hB hb) (Nat.le_trans hB hb.size))
  obtain ⟨AP, cP, eP⟩ := slP_form h.p
  obtain ⟨AR, cR, eR, _, _⟩ := h.t.r.at_
  obtain ⟨AI, nI, cI, eI⟩ := slO_form h.t.i
  simp only at eR eI
  subst eP eR eI
  have HOK : Hid (witE x L n = 0 → WtOk x) := Lib.hid (fun hh => (witE_ok hh).1)
  obtain ⟨nR, hnR⟩ : ∃ k, x.tr.rows.length = k := ⟨_, rfl⟩
  obtain ⟨np, hnp⟩ : ∃ k, x.ps.length = k := ⟨_, rfl⟩
  obtain ⟨st, hst⟩ : ∃ k, x.st = k := ⟨_, rfl⟩
  obtain ⟨lp, hlp⟩ : ∃ k, x.tr.loop = k := ⟨_, rfl⟩
  obtain ⟨e0, he0⟩ : ∃ k, witE x L n = k := ⟨_, rfl⟩
  obtain ⟨tx, htx⟩ : ∃ k, textW x = k := ⟨_, rfl⟩
  have htl := strB_size tx
  obtain ⟨T, hT⟩ : ∃ T, strB tx = T := ⟨_, rfl⟩
  obtain ⟨tn, htn⟩ : ∃ k, tx.length = k := ⟨_, rfl⟩
  rw [hT, htn] at htl
  obtain ⟨PR, hPR⟩ : ∃ y, prW x L n = y := ⟨_, rfl⟩
  rw [hPR]
  unfold prW at hPR
  rw [he0] at HCK HOK hPR
  rw [htx] at HTX hPR
  rw [htn] at hPR
  have HPR := Lib.hid hPR
  clear hPR
  rw [hT] at HTX
  have HTT := Lib.hid hT
  rw [hst, hlp, hnR, hnp] at HCK HTX ⊢
  have HA := Lib.hid (Blk.new w 28 #[.int .i64 st, .slice AP np cP, .slice AI nI cI, .slice AR nR cR, .int .i64 lp])
  have HB : Hid (Below w.heap.size w (w.alloc (.cells #[.int .i64 st, .slice AP np cP, .slice AI nI cI, .slice AR nR cR, .int .i64 lp] 28))) := Lib.hid ((Below.refl _ _).alloc (Nat.le_refl _) _)
  clear h hw lib hnR hnp hst hlp he0 htx hT htn
  go_enter Tryd.func7, Tryd.ntmps7
  go_upto_region 1 with (fail)
  generalize w.alloc (.cells #[.int .i64 st, .slice AP np cP, .slice AI nI cI, .slice AR nR cR, .int .i64 lp] 28) = X at HA HB ⊢
  obtain ⟨c0, c1, c2, c3, c4⟩ := five_of HA.out
  go_upto_region 2 with (go_at_call 9; refine (HCK.out X HB.out).mono ?_; rintro e w2 ⟨rfl, hb2⟩; have HB2 := Lib.hid (bt HB.out (Nat.le_refl _) hb2); have HA2 := Lib.hid (Blk.below HA.out hb2 (Blk.lt HA.out)); clear hb2)
  clear c0 c1 c2 c3 c4
  by_cases h0 : e0 = 0
  · have hz : (e0 != (0 : Int)) = false := by simpa using h0
    have HX := Lib.hid (HTX.out w2 HB2.out (HOK.out h0))
    obtain ⟨c0, c1, c2, c3, c4⟩ := five_of HA2.out
    by_cases hl : 262144 < tn
    · have hlz : (262144 : Int) < (tn : Int) := by omega
      have HF : Hid (PR = ([], 2)) := Lib.hid (by rw [← HPR.out, if_neg (by omega), if_pos hl])
      clear h0 hl
      go_wp2_with (go_at_call 15; refine HX.out.mono ?_; rintro e w3 ⟨rfl, hb3⟩; have HB3 := Lib.hid (bt HB2.out (Nat.le_refl _) hb3); clear hb3)
      go_ret2
      exact ⟨by rw [HF.out]; rfl, HB3.out⟩
    · have hlz : ¬ (262144 : Int) < (tn : Int) := by omega
      have HF : Hid (PR = (tx, 0)) := Lib.hid (by rw [← HPR.out, if_neg (by omega), if_neg hl])
      clear h0 hl
      go_wp2_with (go_at_call 15; refine HX.out.mono ?_; rintro e w3 ⟨rfl, hb3⟩; have HB3 := Lib.hid (bt HB2.out (Nat.le_refl _) hb3); clear hb3)
      go_ret2
      exact ⟨by rw [HF.out, ← HTT.out]; rfl, HB3.out⟩
  · have hz : (e0 != (0 : Int)) = true := by simpa using h0
    have HF : Hid (PR = ([], e0)) := Lib.hid (by rw [← HPR.out, if_pos h0])
    clear h0
    go_wp2
    go_ret2
    exact ⟨by rw [HF.out]; rfl, HB2.out⟩
end Go.Proofs.YtjbglgmbnjdhcaaDoor

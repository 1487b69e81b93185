/- Stim: the document's trace, Check. -/
import Derived.Test.YtjbglgmbnjdhcaaDoorStmQ
namespace Go.Proofs.YtjbglgmbnjdhcaaDoor
open Go.RowKit

/-! ### Whole -/
theorem digit_cutB : ∀ d : Fin 10, (⟨#[48, 49, 50, 51, 52, 53, 54, 55, 56, 57]⟩ : ByteArray).extract d.val (d.val + 1) = strB [UInt8.ofNat (48 + d.val)] := by decide +kernel
theorem slice_digitB (k : Nat) (wx : World) : (Instr.slice 9 (.string { data := #[48, 49, 50, 51, 52, 53, 54, 55, 56, 57] }) (some (.int .i64 ((k : Int) % 10))) (some (.int .i64 ((k : Int) % 10 + 1))) none).run Tryd.prog wx = .ok (.string (strB [UInt8.ofNat (48 + k % 10)])) wx := by
  have hs : (⟨#[48, 49, 50, 51, 52, 53, 54, 55, 56, 57]⟩ : ByteArray).size = 10 := rfl
  have h := run_slice_string (P := Tryd.prog) wx 9 ⟨#[48, 49, 50, 51, 52, 53, 54, 55, 56, 57]⟩ .i64 .i64 ((k : Int) % 10) ((k : Int) % 10 + 1) Tryd.underlying9 (by omega) (by omega) (by rw [hs]; omega)
  have e1 : ((k : Int) % 10).toNat = k % 10 := by omega
  have e2 : ((k : Int) % 10 + 1).toNat = k % 10 + 1 := by omega
  rw [e1, e2, digit_cutB ⟨k % 10, by omega⟩] at h
  exact h
def WInv (gs : Bs) (k : Nat) (l : Bs) : Prop := (k = 0 ∧ l ≠ [] ∧ l = gs) ∨ ((0 < k ∨ l = []) ∧ dec k ++ l = gs)
theorem winv_step {gs l : Bs} {k : Nat} (h : WInv gs k l) (hc : 0 < k ∨ l = []) : WInv gs (k / 10) ([UInt8.ofNat (48 + k % 10)] ++ l) := by
  rcases h with ⟨h1, h2, _⟩ | ⟨_, h2⟩
  · rcases hc with h | h
    · omega
    · exact absurd h h2
  · by_cases hk : k < 10
    · rw [dec_small hk] at h2
      refine .inl ⟨by omega, by simp, ?_⟩
      rw [show k % 10 = k by omega]; exact h2
    · rw [dec_big hk] at h2
      refine .inr ⟨.inl (by omega), ?_⟩
      rw [← h2]; simp
theorem winv_end {gs l : Bs} (h : WInv gs 0 l) (hl : l ≠ []) : l = gs := by
  rcases h with ⟨_, _, h⟩ | ⟨h, _⟩
  · exact h
  · rcases h with h | h
    · omega
    · exact absurd h hl
theorem winv_len {gs l : Bs} {k : Nat} (h : WInv gs k l) : l.length ≤ gs.length := by
  rcases h with ⟨_, _, h⟩ | ⟨_, h⟩
  · rw [h]; exact Nat.le_refl _
  · rw [← h, List.length_append]; omega
def emptyN : Value → Nat
  | .string s => if s.size = 0 then 1 else 0
  | _ => 0
theorem bytes_neB {s : ByteArray} (h : s.size ≠ 0) : s.toList.isEmpty = false := by
  rw [ByteArray.toList_eq]
  rcases s with ⟨⟨l⟩⟩
  cases l with
  | nil => exact absurd rfl h
  | cons a r => rfl
set_option maxHeartbeats 4000000 in
set_option maxRecDepth 100000 in
theorem rWhole_any (n : Nat) (w : World) (h : n ≤ 2147483647) : Calls Tryd.prog 31 #[.int .i64 n] w fun e w' => e = .returned (.string (strB (dec n))) ∧ w = w' := by
  have hlen : (dec n).length ≤ 10 := dec_len 9 n (by omega)
  generalize hg : dec n = gs at hlen ⊢
  have HG := Lib.hid hg
  clear hg
  go_enter Tryd.func31, Tryd.ntmps31
  go_wp2
  go_loop [0, 3] (fun q v => ∃ (k : Nat) (l : Bs), q = .int .i64 k ∧ (k : Int) ≤ 2147483647 ∧ v = .string (strB l) ∧ WInv gs k l) (fun q v => (intOf q).toNat + emptyN v)
  case atStart => exact ⟨n, [], rfl, by omega, rfl, .inr ⟨.inr rfl, by simpa using HG.out⟩⟩
  case round =>
    obtain ⟨k, l, rfl, hk, rfl, hi⟩ := hrel
    have HI := Lib.hid hi
    have hsl := slice_digitB k
    have hsz := strB_size l
    have hll := winv_len hi
    have hsz3 := strB_size [UInt8.ofNat (48 + k % 10)]
    have hcat := cat_strB [UInt8.ofNat (48 + k % 10)] l
    have hsz2 := strB_size ([UInt8.ofNat (48 + k % 10)] ++ l)
    generalize hw : strB l = s at hsz hcat
    generalize hw2 : strB ([UInt8.ofNat (48 + k % 10)] ++ l) = s2 at hcat hsz2
    generalize strB [UInt8.ofNat (48 + k % 10)] = s3 at hsl hcat hsz3
    have hno : ¬ 9223372036854775807 < s3.size + s.size := by rw [hsz3, hsz]; simp; omega
    have hne2 : s2.size ≠ 0 := by rw [hsz2]; simp
    have HW := Lib.hid hw
    have HW2 := Lib.hid hw2
    have HSZ := Lib.hid hsz
    have HNE2 := Lib.hid hne2
    clear hi hw hw2 hsz2 hsz3 hll hne2
    by_cases hk0 : 0 < k
    · have HK := Lib.hid hk0
      clear hsz
      go_wp2
      go_round
      case rel => exact ⟨k / 10, _, by go_num, by omega, by rw [HW2.out], winv_step HI.out (.inl HK.out)⟩
      case measure => simp [intOf, emptyN, HNE2.out]; omega
    · obtain rfl : k = 0 := by omega
      by_cases hs0 : s.size = 0
      · have hl0 : l = [] := List.eq_nil_of_length_eq_zero (by rw [← hsz]; exact hs0)
        have HL0 := Lib.hid hl0
        have hse : s = { data := #[] } := by rw [← HW.out, hl0]; rfl
        subst hse
        clear hl0 hsz hs0
        go_wp2
        go_round
        case rel => exact ⟨0, [UInt8.ofNat 48], by go_num, by omega, congrArg Value.string (by decide +kernel), by simpa [HL0.out] using winv_step HI.out (.inr HL0.out)⟩
        case measure => simp [intOf, emptyN]; decide +kernel
      · have hl0 : l ≠ [] := by intro e; apply hs0; rw [hsz, e]; rfl
        have HL0 := Lib.hid (winv_end HI.out hl0)
        have hne := bytes_neB hs0
        clear hl0 hsz hs0
        go_wp2
        go_ret
        exact ⟨by rw [← HL0.out, HW.out]; rfl, rfl⟩
set_option maxHeartbeats 4000000 in
set_option maxRecDepth 100000 in
theorem rBits0_any (w : World) (v : Value) (r : List Bool) (h : RowE 1 encO w v r) (hr : r.length ≤ 281474976710656) : Calls Tryd.prog 32 #[v] w fun e w' => e = .returned (.string (strB (bitsB r))) ∧ Below w.heap.size w w' := by
  obtain ⟨A, c, rfl, hat⟩ := rowO_at h
  have HAT := Lib.hid hat
  have hmk := make_bytesB r.length hr
  have HB0 : Hid (Below w.heap.size w (w.alloc (.cells (madeCells #[Value.int .u8 0] r.length) 5))) := Lib.hid ((Below.refl _ _).alloc (Nat.le_refl _) _)
  have HT0 : Hid (BB (w.alloc (.cells (madeCells #[Value.int .u8 0] r.length) 5)) w.heap.size (lineF r 0)) := Lib.hid (by rw [lineF_zero]; exact new_bb w r.length)
  have HE := Lib.hid (lineF_end r)
  obtain ⟨n, hn⟩ : ∃ n, r.length = n := ⟨_, rfl⟩
  rw [hn] at hmk HB0 HT0 HE ⊢
  rw [hn] at hr
  have HN := Lib.hid hn
  clear h hat hn
  go_enter Tryd.func32, Tryd.ntmps32
  go_upto_region 3 with (fail)
  go_loopg [4] n (fun j iv wx => ∃ k : Nat, k ≤ n ∧ iv = .int .i64 k ∧ j = n - k ∧ BB wx w.heap.size (lineF r k) ∧ Below w.heap.size w wx)
  case atStart => exact ⟨0, Nat.zero_le _, rfl, rfl, HT0.out, HB0.out⟩
  case round =>
    obtain ⟨k, hk, rfl, hgk, htb, hbw⟩ := hrel
    subst hgk
    have HTB := Lib.hid htb
    have HBW := Lib.hid hbw
    clear htb hbw
    by_cases hlt : k < n
    · obtain ⟨z, hz⟩ : ∃ z, r[k]? = some z := ⟨_, List.getElem?_eq_getElem (by rw [HN.out]; exact hlt)⟩
      obtain ⟨b, off, rfl, hb, hu⟩ := HAT.out k z hz
      have hcu := (HBW.out.cell (p := ⟨b, off + k, none⟩) hb).trans hu
      have hk0 : (0 : Int) ≤ (k : Int) := by omega
      have hk1 : (k : Int) < (n : Int) := by omega
      have c0 := HTB.out.cell (lineF_has (by rw [HN.out]; exact hlt))
      have f0 := HTB.out.frozen k
      have HBL := Lib.hid hb
      have HT1 := Lib.hid (HTB.out.set_ (k := k) 48)
      have HB1 : Hid (Below w.heap.size w (wr.setCell ⟨w.heap.size, k, none⟩ (.int .u8 48))) := Lib.hid (HBW.out.setCell (Nat.le_refl _) _)
      have HZ := Lib.hid (lineF_step hz)
      have hcu2 : (wr.setCell ⟨w.heap.size, k, none⟩ (.int .u8 48)).cell? ⟨b, off + k, none⟩ = some (.bool z) := (World.cell?_setCell_other wr ⟨w.heap.size, k, none⟩ ⟨b, off + k, none⟩ (.int .u8 48) (by have := HBL.out; intro e; injection e with e1; omega)).trans hcu
      clear hz hu hb
      cases z with
      | false =>
        have HT2 : Hid (BB (wr.setCell ⟨w.heap.size, k, none⟩ (.int .u8 48)) w.heap.size (lineF r (k + 1))) := Lib.hid (by rw [← HZ.out]; exact HT1.out)
        go_wp2
        go_roundg (n - (k + 1))
        case measure => omega
        case rel => exact ⟨k + 1, by omega, by go_num, rfl, HT2.out, HB1.out⟩
      | true =>
        have HT2 : Hid (BB ((wr.setCell ⟨w.heap.size, k, none⟩ (.int .u8 48)).setCell ⟨w.heap.size, k, none⟩ (.int .u8 49)) w.heap.size (lineF r (k + 1))) := Lib.hid (by
          rw [← HZ.out]
          have h9 := HT1.out.set_ (k := k) 49
          rw [List.set_set] at h9
          exact h9)
        have HB2 : Hid (Below w.heap.size w ((wr.setCell ⟨w.heap.size, k, none⟩ (.int .u8 48)).setCell ⟨w.heap.size, k, none⟩ (.int .u8 49))) := Lib.hid (HB1.out.setCell (Nat.le_refl _) _)
        have c1 : (wr.setCell ⟨w.heap.size, k, none⟩ (.int .u8 48)).cell? ⟨w.heap.size, k, none⟩ = some (.int .u8 48) := by
          have h9 := HT1.out.cell (k := k) (c := 48) (by rw [List.getElem?_set]; simp; exact (List.getElem?_eq_some_iff.1 (lineF_has (by rw [HN.out]; exact hlt))).1)
          exact h9
        have f1 := HT1.out.frozen k
        go_wp2
        go_roundg (n - (k + 1))
        case measure => omega
        case rel => exact ⟨k + 1, by omega, by go_num, rfl, HT2.out, HB2.out⟩
    · have hk1 : ¬ (k : Int) < (n : Int) := by omega
      have hke : k = n := by omega
      subst hke
      have hcv := HTB.out.text
      rw [HE.out, bits_length, HN.out] at hcv
      go_wp2
      go_ret
      exact ⟨rfl, HBW.out⟩
/-! ### sizes, properties, traces -/
def tookP (ps : List (Int × Int)) (i : Nat) : Prop := (∀ p ∈ ps.take i, okP p) ∧ (ps.take i).Nodup
theorem tookP_step {ps : List (Int × Int)} {i : Nat} {p : Int × Int} (h : tookP ps i) (hp : ps[i]? = some p) (ho : okP p) (hd : ∀ k, k < i → ps[k]? ≠ some p) : tookP ps (i + 1) := by
  have e : ps.take (i + 1) = ps.take i ++ [p] := by rw [List.take_add_one, hp]; rfl
  have hn : p ∉ ps.take i := fun hm => by
    obtain ⟨k, hk⟩ := List.mem_iff_getElem?.1 hm
    rw [List.getElem?_take] at hk
    split at hk
    · exact hd k (by assumption) hk
    · cases hk
  unfold tookP
  rw [e]
  refine ⟨fun q hq => ?_, List.nodup_append.2 ⟨h.2, by simp, fun a ha b hb => ?_⟩⟩
  · rcases List.mem_append.1 hq with hq | hq
    · exact h.1 q hq
    · rw [List.mem_singleton.1 hq]; exact ho
  · rw [List.mem_singleton.1 hb]
    exact fun e => hn (e ▸ ha)
theorem tookP_end {ps : List (Int × Int)} (h : tookP ps ps.length) (hn : ps ≠ []) : okPs ps = true := by
  unfold tookP at h
  rw [List.take_length] at h
  exact decide_eq_true ⟨hn, h⟩
theorem okPs_bad {ps : List (Int × Int)} {i : Nat} {p : Int × Int} (hp : ps[i]? = some p) (ho : ¬ okP p) : okPs ps = false := decide_eq_false fun h => ho (h.2.1 p (List.mem_of_getElem? hp))
theorem okPs_twice {ps : List (Int × Int)} {i k : Nat} {p : Int × Int} (hp : ps[i]? = some p) (hk : ps[k]? = some p) (hlt : k < i) : okPs ps = false := decide_eq_false fun h => by
  obtain ⟨h1, e1⟩ := List.getElem?_eq_some_iff.1 hp
  obtain ⟨h2, e2⟩ := List.getElem?_eq_some_iff.1 hk
  exact (List.pairwise_iff_getElem.1 h.2.2 k i h2 h1 hlt) (e2.trans e1.symm)
def prE (ps : List (Int × Int)) : Int := if 16384 < ps.length then 2 else if okPs ps = false then 121 else 0
set_option maxHeartbeats 2000000 in
theorem rSizes_any (w : World) (L n : Int) : Calls Tryd.prog 20 #[.int .i64 L, .int .i64 n] w fun e w' => e = .returned (.bool (decide (0 ≤ L ∧ L ≤ 16384 ∧ 0 ≤ n ∧ n ≤ 16384))) ∧ w = w' := by
  by_cases h1 : 0 ≤ L
  · by_cases h2 : L ≤ 16384
    · by_cases h3 : 0 ≤ n
      · by_cases h4 : n ≤ 16384
        · rw [decide_eq_true ⟨h1, h2, h3, h4⟩]
          go_enter Tryd.func20, Tryd.ntmps20
          go_wp2
          go_ret
          exact ⟨rfl, rfl⟩
        · rw [decide_eq_false (fun h => h4 h.2.2.2)]
          go_enter Tryd.func20, Tryd.ntmps20
          go_wp2
          go_ret
          exact ⟨rfl, rfl⟩
      · rw [decide_eq_false (fun h => h3 h.2.2.1)]
        go_enter Tryd.func20, Tryd.ntmps20
        go_wp2
        go_ret
        exact ⟨rfl, rfl⟩
    · rw [decide_eq_false (fun h => h2 h.2.1)]
      go_enter Tryd.func20, Tryd.ntmps20
      go_wp2
      go_ret
      exact ⟨rfl, rfl⟩
  · rw [decide_eq_false (fun h => h1 h.1)]
    go_enter Tryd.func20, Tryd.ntmps20
    go_wp2
    go_ret
    exact ⟨rfl, rfl⟩
set_option maxHeartbeats 8000000 in
set_option maxRecDepth 100000 in
theorem rProps_any (w : World) (v : Value) (ps : List (Int × Int)) (h : RowE 2 encPp w v ps) :
    Calls Tryd.prog 21 #[v] w fun e w' => e = .returned (.int .i64 (prE ps)) ∧ Below w.heap.size w w' := by
  have hml : ps.length ≤ maxLen := h.len
  obtain ⟨A, c, rfl, hat⟩ := prop_at h
  have HAT := Lib.hid hat
  obtain ⟨n, hn⟩ : ∃ n, ps.length = n := ⟨_, rfl⟩
  obtain ⟨r, hr⟩ : ∃ r, prE ps = r := ⟨_, rfl⟩
  rw [hn] at hml ⊢
  rw [hr]
  unfold maxLen at hml
  have HN := Lib.hid hn
  have HR := Lib.hid hr
  clear h hat hn hr
  by_cases h1 : 16384 < n
  · have h1z : (16384 : Int) < (n : Int) := by omega
    have HF : Hid (r = 2) := Lib.hid (by rw [← HR.out]; unfold prE; rw [HN.out, if_pos h1])
    clear h1
    go_enter Tryd.func21, Tryd.ntmps21
    go_wp2
    go_ret
    exact ⟨by rw [HF.out]; first | rfl | simp, Below.refl _ _⟩
  · have h1z : ¬ (16384 : Int) < (n : Int) := by omega
    have HL := Lib.hid h1
    clear h1
    by_cases h2 : n = 0
    · subst h2
      have HF : Hid (r = 121) := Lib.hid (by rw [← HR.out]; unfold prE; rw [HN.out, if_neg (by omega), List.eq_nil_of_length_eq_zero HN.out]; rfl)
      go_enter Tryd.func21, Tryd.ntmps21
      go_wp2
      go_ret
      exact ⟨by rw [HF.out]; first | rfl | simp, Below.refl _ _⟩
    · have h2z : ((n : Int) == (0 : Int)) = false := by simpa using h2
      have HNE : Hid (ps ≠ []) := Lib.hid (fun e => h2 (by rw [← HN.out, e]; rfl))
      clear h2
      go_enter Tryd.func21, Tryd.ntmps21
      go_upto_region 6 with (fail)
      go_loopg [3] n (fun j iv wx => ∃ i : Nat, i ≤ n ∧ iv = .int .i64 i ∧ j = n - i ∧ tookP ps i ∧ Below w.heap.size w wx)
      case atStart => exact ⟨0, Nat.zero_le _, rfl, rfl, ⟨by simp, by simp⟩, Below.refl _ _⟩
      case round =>
        obtain ⟨i, hi, rfl, hgk, htk, hbw⟩ := hrel
        subst hgk
        have HTK := Lib.hid htk
        have HB := Lib.hid hbw
        clear htk hbw
        by_cases hlt : i < n
        · obtain ⟨p, hp⟩ : ∃ p, ps[i]? = some p := ⟨_, List.getElem?_eq_getElem (by rw [HN.out]; exact hlt)⟩
          obtain ⟨b, off, rfl, hb, hh0, hh1⟩ := HAT.out i p hp
          obtain ⟨kd, pa⟩ := p
          simp only at hh0 hh1
          have s0 := (HB.out.cell (p := ⟨b, off + i * 2, none⟩) hb).trans hh0
          have s1 := (HB.out.cell (p := ⟨b, off + i * 2 + 1, none⟩) hb).trans hh1
          have hk0 : (0 : Int) ≤ (i : Int) := by omega
          have hk1 : (i : Int) < (n : Int) := by omega
          have HP := Lib.hid hp
          have HA2 := Lib.hid (Blk.new wr 57 #[.int .u8 kd, .int .i64 pa])
          have HB2 : Hid (Below w.heap.size w (wr.alloc (.cells #[.int .u8 kd, .int .i64 pa] 57))) := Lib.hid (HB.out.alloc HB.out.size _)
          clear hp hh0 hh1
          by_cases hk : okP (kd, pa)
          · have HO := Lib.hid hk
            have hkd : kd = 98 ∨ kd = 106 := hk.1
            have hp0 : ¬ pa < 0 := by have := hk.2.1; simp only at this; omega
            have hp1 : ¬ (16384 : Int) ≤ pa := by have := hk.2.2; simp only at this; omega
            clear hk
            rcases hkd with hkd | hkd
            · subst hkd
              go_upto_region 12 with (fail)
              clear s0 s1
              generalize wr.alloc (.cells #[.int .u8 98, .int .i64 pa] 57) = X at HA2 HB2 ⊢
              generalize wr.heap.size = G at HA2 ⊢
              obtain ⟨e0, e1⟩ := duo_of HA2.out
              go_loopg [5] i (fun j iv wx => ∃ k : Nat, k ≤ i ∧ iv = .int .i64 k ∧ j = i - k ∧ (∀ q, q < k → ps[q]? ≠ some (98, pa)) ∧ Below X.heap.size X wx)
              case atStart => exact ⟨0, Nat.zero_le _, rfl, rfl, fun q hq => absurd hq (by omega), Below.refl _ _⟩
              case round =>
                obtain ⟨k, hkk, rfl, hgk, hno, hbx⟩ := hrel
                subst hgk
                have HNO := Lib.hid hno
                have HBX := Lib.hid hbx
                have HB3 := Lib.hid (bt HB2.out (Nat.le_refl _) hbx)
                have HD := Lib.hid (Blk.below HA2.out hbx (Blk.lt HA2.out))
                clear hno hbx e0 e1
                obtain ⟨e0, e1⟩ := duo_of HD.out
                by_cases hki : k < i
                · obtain ⟨q, hq⟩ : ∃ q, ps[k]? = some q := ⟨_, List.getElem?_eq_getElem (by rw [HN.out]; omega)⟩
                  obtain ⟨b2, off2, eb, hb2, g0, g1⟩ := HAT.out k q hq
                  injection eb with eb
                  injection eb with eb1 eb2
                  subst eb1 eb2
                  obtain ⟨kq, pq⟩ := q
                  simp only at g0 g1
                  have t0 := (HB3.out.cell (p := ⟨b, off + k * 2, none⟩) hb2).trans g0
                  have t1 := (HB3.out.cell (p := ⟨b, off + k * 2 + 1, none⟩) hb2).trans g1
                  have hq0 : (0 : Int) ≤ (k : Int) := by omega
                  have hq1 : (k : Int) < (n : Int) := by omega
                  have hq2 : (k : Int) < (i : Int) := by omega
                  have HQ := Lib.hid hq
                  clear hq g0 g1 hb2
                  have g9 := And.intro (And.intro t0 t1) (And.intro e0 e1)
                  go_upto_region 14 with (fail)
                  have hdw := (Below.refl wr.heap.size wr).drew
                  have HB4 : Hid (Below X.heap.size X wr.drew) := Lib.hid (bt HBX.out (Nat.le_refl _) hdw)
                  have HB5 : Hid (Below w.heap.size w wr.drew) := Lib.hid (bt HB3.out (Nat.le_refl _) hdw)
                  clear hdw
                  by_cases hqe : kq = 98 ∧ pq = pa
                  · obtain ⟨h8, h9⟩ := hqe
                    subst h8
                    have h9 := h9.symm
                    subst h9
                    have HF : Hid (r = 121) := Lib.hid (by rw [← HR.out]; unfold prE; rw [HN.out, if_neg HL.out, if_pos (okPs_twice HP.out HQ.out hki)])
                    refine wp_region_T (by kernel_rfl) (fun w' => (w'.cell? ⟨b, off + k * 2, none⟩ = some (.int .u8 98) ∧ w'.cell? ⟨b, off + k * 2 + 1, none⟩ = some (.int .i64 pa)) ∧ w'.cell? ⟨G, 0, none⟩ = some (.int .u8 98) ∧ w'.cell? ⟨G, 1, none⟩ = some (.int .i64 pa)) 6 ?_
                    have hHeld := g9
                    clear g9 t0 t1 e0 e1
                    refine wpAnyT_take (i := 0) (oi := { dst := some 45, op := Op.move (Operand.tmp 0), type := 22, pos := "ref.go:31", after := #[], guard := none }) (v := ?v0r14a98) rfl (by kernel_rfl) (fun _ _ _ h => h) (by rfl) hHeld ?h0r14a98 ?_
                    case h0r14a98 => (intro w' hSw; (try dsimp only at hSw); go_simp; try with_reducible rfl)
                    (try simp only [Act.put, List.setIfInBounds_toArray, List.set_cons_zero, List.set_cons_succ])
                    refine wpAnyT_take (i := 1) (oi := { dst := some 46, op := Op.move (Operand.tmp 5), type := 3, pos := "ref.go:31", after := #[], guard := none }) (v := ?v1r14a98) rfl (by kernel_rfl) (fun _ _ _ h => h) (by rfl) hHeld ?h1r14a98 ?_
                    case h1r14a98 => (intro w' hSw; (try dsimp only at hSw); go_simp; try with_reducible rfl)
                    (try simp only [Act.put, List.setIfInBounds_toArray, List.set_cons_zero, List.set_cons_succ])
                    refine wpAnyT_take (i := 2) (oi := { dst := some 47, op := Op.indexAddr 22 (Operand.tmp 45) (Operand.tmp 46), type := 0, pos := "ref.go:31", after := #[{ on := 0, ground := Ground.data }, { on := 1, ground := Ground.data }], guard := none }) (v := ?v2r14a98) rfl (by kernel_rfl) (fun _ _ _ h => h) (by rfl) hHeld ?h2r14a98 ?_
                    case h2r14a98 => (intro w' hSw; (try dsimp only at hSw); go_simp; try with_reducible rfl)
                    (try simp only [Act.put, List.setIfInBounds_toArray, List.set_cons_zero, List.set_cons_succ])
                    refine wpAnyT_take (i := 3) (oi := { dst := some 48, op := Op.load 57 (Operand.tmp 47), type := 57, pos := "ref.go:31", after := #[{ on := 2, ground := Ground.data }], guard := none }) (v := ?v3r14a98) rfl (by kernel_rfl) (fun _ _ _ h => h) (by rfl) hHeld ?h3r14a98 ?_
                    case h3r14a98 => (intro w' hSw; (try dsimp only at hSw); go_simp; try with_reducible rfl)
                    (try simp only [Act.put, List.setIfInBounds_toArray, List.set_cons_zero, List.set_cons_succ])
                    refine wpAnyT_take (i := 4) (oi := { dst := some 49, op := Op.load 57 (Operand.tmp 4), type := 57, pos := "ref.go:31", after := #[], guard := none }) (v := ?v4r14a98) rfl (by kernel_rfl) (fun _ _ _ h => h) (by rfl) hHeld ?h4r14a98 ?_
                    case h4r14a98 => (intro w' hSw; (try dsimp only at hSw); go_simp; try with_reducible rfl)
                    (try simp only [Act.put, List.setIfInBounds_toArray, List.set_cons_zero, List.set_cons_succ])
                    refine wpAnyT_take (i := 5) (oi := { dst := some 50, op := Op.binOp BinOp.eql 57 (Operand.tmp 48) (Operand.tmp 49) 57, type := 4, pos := "ref.go:31", after := #[{ on := 3, ground := Ground.data }, { on := 4, ground := Ground.data }], guard := none }) (v := ?v5r14a98) rfl (by kernel_rfl) (fun _ _ _ h => h) (by rfl) hHeld ?h5r14a98 ?_
                    case h5r14a98 => (intro w' hSw; (try dsimp only at hSw); go_simp; try with_reducible rfl)
                    (try simp only [Act.put, List.setIfInBounds_toArray, List.set_cons_zero, List.set_cons_succ])
                    refine wpAnyT_done (by kernel_rfl) ?_
                    go_wp2
                    go_ret
                    exact ⟨by rw [HF.out]; first | rfl | simp, HB5.out⟩
                  · have HNO2 : Hid (∀ q, q < k + 1 → ps[q]? ≠ some (98, pa)) := Lib.hid (fun q hq => by
                      by_cases hqk : q = k
                      · subst hqk
                        rw [HQ.out]
                        intro e
                        injection e with e
                        injection e with e1 e2
                        exact hqe ⟨e1, e2⟩
                      · exact HNO.out q (by omega))
                    refine wp_region_T (by kernel_rfl) (fun w' => (w'.cell? ⟨b, off + k * 2, none⟩ = some (.int .u8 kq) ∧ w'.cell? ⟨b, off + k * 2 + 1, none⟩ = some (.int .i64 pq)) ∧ w'.cell? ⟨G, 0, none⟩ = some (.int .u8 98) ∧ w'.cell? ⟨G, 1, none⟩ = some (.int .i64 pa)) 6 ?_
                    have hHeld := g9
                    clear g9 t0 t1 e0 e1
                    refine wpAnyT_take (i := 0) (oi := { dst := some 45, op := Op.move (Operand.tmp 0), type := 22, pos := "ref.go:31", after := #[], guard := none }) (v := ?v0r14b98) rfl (by kernel_rfl) (fun _ _ _ h => h) (by rfl) hHeld ?h0r14b98 ?_
                    case h0r14b98 => (intro w' hSw; (try dsimp only at hSw); go_simp; try with_reducible rfl)
                    (try simp only [Act.put, List.setIfInBounds_toArray, List.set_cons_zero, List.set_cons_succ])
                    refine wpAnyT_take (i := 1) (oi := { dst := some 46, op := Op.move (Operand.tmp 5), type := 3, pos := "ref.go:31", after := #[], guard := none }) (v := ?v1r14b98) rfl (by kernel_rfl) (fun _ _ _ h => h) (by rfl) hHeld ?h1r14b98 ?_
                    case h1r14b98 => (intro w' hSw; (try dsimp only at hSw); go_simp; try with_reducible rfl)
                    (try simp only [Act.put, List.setIfInBounds_toArray, List.set_cons_zero, List.set_cons_succ])
                    refine wpAnyT_take (i := 2) (oi := { dst := some 47, op := Op.indexAddr 22 (Operand.tmp 45) (Operand.tmp 46), type := 0, pos := "ref.go:31", after := #[{ on := 0, ground := Ground.data }, { on := 1, ground := Ground.data }], guard := none }) (v := ?v2r14b98) rfl (by kernel_rfl) (fun _ _ _ h => h) (by rfl) hHeld ?h2r14b98 ?_
                    case h2r14b98 => (intro w' hSw; (try dsimp only at hSw); go_simp; try with_reducible rfl)
                    (try simp only [Act.put, List.setIfInBounds_toArray, List.set_cons_zero, List.set_cons_succ])
                    refine wpAnyT_take (i := 3) (oi := { dst := some 48, op := Op.load 57 (Operand.tmp 47), type := 57, pos := "ref.go:31", after := #[{ on := 2, ground := Ground.data }], guard := none }) (v := ?v3r14b98) rfl (by kernel_rfl) (fun _ _ _ h => h) (by rfl) hHeld ?h3r14b98 ?_
                    case h3r14b98 => (intro w' hSw; (try dsimp only at hSw); go_simp; try with_reducible rfl)
                    (try simp only [Act.put, List.setIfInBounds_toArray, List.set_cons_zero, List.set_cons_succ])
                    refine wpAnyT_take (i := 4) (oi := { dst := some 49, op := Op.load 57 (Operand.tmp 4), type := 57, pos := "ref.go:31", after := #[], guard := none }) (v := ?v4r14b98) rfl (by kernel_rfl) (fun _ _ _ h => h) (by rfl) hHeld ?h4r14b98 ?_
                    case h4r14b98 => (intro w' hSw; (try dsimp only at hSw); go_simp; try with_reducible rfl)
                    (try simp only [Act.put, List.setIfInBounds_toArray, List.set_cons_zero, List.set_cons_succ])
                    refine wpAnyT_take (i := 5) (oi := { dst := some 50, op := Op.binOp BinOp.eql 57 (Operand.tmp 48) (Operand.tmp 49) 57, type := 4, pos := "ref.go:31", after := #[{ on := 3, ground := Ground.data }, { on := 4, ground := Ground.data }], guard := none }) (v := .bool false) rfl (by kernel_rfl) (fun _ _ _ h => h) (by rfl) hHeld ?h5r14b98 ?_
                    case h5r14b98 => (intro w' hSw; (try dsimp only at hSw); go_simp; exact fun a b => hqe ⟨a, b⟩)
                    (try simp only [Act.put, List.setIfInBounds_toArray, List.set_cons_zero, List.set_cons_succ])
                    refine wpAnyT_done (by kernel_rfl) ?_
                    go_wp2
                    go_roundg (i - (k + 1))
                    case measure => omega
                    case rel => exact ⟨k + 1, by omega, by go_num, rfl, HNO2.out, HB4.out⟩
                · have hq2 : ¬ (k : Int) < (i : Int) := by omega
                  have hke : k = i := by omega
                  subst hke
                  have HST := Lib.hid (tookP_step HTK.out HP.out HO.out HNO.out)
                  go_wp2
                  go_roundg (n - (k + 1))
                  case measure => omega
                  case rel => exact ⟨k + 1, by omega, by go_num, rfl, HST.out, HB3.out⟩
            · subst hkd
              go_upto_region 12 with (fail)
              clear s0 s1
              generalize wr.alloc (.cells #[.int .u8 106, .int .i64 pa] 57) = X at HA2 HB2 ⊢
              generalize wr.heap.size = G at HA2 ⊢
              obtain ⟨e0, e1⟩ := duo_of HA2.out
              go_loopg [5] i (fun j iv wx => ∃ k : Nat, k ≤ i ∧ iv = .int .i64 k ∧ j = i - k ∧ (∀ q, q < k → ps[q]? ≠ some (106, pa)) ∧ Below X.heap.size X wx)
              case atStart => exact ⟨0, Nat.zero_le _, rfl, rfl, fun q hq => absurd hq (by omega), Below.refl _ _⟩
              case round =>
                obtain ⟨k, hkk, rfl, hgk, hno, hbx⟩ := hrel
                subst hgk
                have HNO := Lib.hid hno
                have HBX := Lib.hid hbx
                have HB3 := Lib.hid (bt HB2.out (Nat.le_refl _) hbx)
                have HD := Lib.hid (Blk.below HA2.out hbx (Blk.lt HA2.out))
                clear hno hbx e0 e1
                obtain ⟨e0, e1⟩ := duo_of HD.out
                by_cases hki : k < i
                · obtain ⟨q, hq⟩ : ∃ q, ps[k]? = some q := ⟨_, List.getElem?_eq_getElem (by rw [HN.out]; omega)⟩
                  obtain ⟨b2, off2, eb, hb2, g0, g1⟩ := HAT.out k q hq
                  injection eb with eb
                  injection eb with eb1 eb2
                  subst eb1 eb2
                  obtain ⟨kq, pq⟩ := q
                  simp only at g0 g1
                  have t0 := (HB3.out.cell (p := ⟨b, off + k * 2, none⟩) hb2).trans g0
                  have t1 := (HB3.out.cell (p := ⟨b, off + k * 2 + 1, none⟩) hb2).trans g1
                  have hq0 : (0 : Int) ≤ (k : Int) := by omega
                  have hq1 : (k : Int) < (n : Int) := by omega
                  have hq2 : (k : Int) < (i : Int) := by omega
                  have HQ := Lib.hid hq
                  clear hq g0 g1 hb2
                  have g9 := And.intro (And.intro t0 t1) (And.intro e0 e1)
                  go_upto_region 14 with (fail)
                  have hdw := (Below.refl wr.heap.size wr).drew
                  have HB4 : Hid (Below X.heap.size X wr.drew) := Lib.hid (bt HBX.out (Nat.le_refl _) hdw)
                  have HB5 : Hid (Below w.heap.size w wr.drew) := Lib.hid (bt HB3.out (Nat.le_refl _) hdw)
                  clear hdw
                  by_cases hqe : kq = 106 ∧ pq = pa
                  · obtain ⟨h8, h9⟩ := hqe
                    subst h8
                    have h9 := h9.symm
                    subst h9
                    have HF : Hid (r = 121) := Lib.hid (by rw [← HR.out]; unfold prE; rw [HN.out, if_neg HL.out, if_pos (okPs_twice HP.out HQ.out hki)])
                    refine wp_region_T (by kernel_rfl) (fun w' => (w'.cell? ⟨b, off + k * 2, none⟩ = some (.int .u8 106) ∧ w'.cell? ⟨b, off + k * 2 + 1, none⟩ = some (.int .i64 pa)) ∧ w'.cell? ⟨G, 0, none⟩ = some (.int .u8 106) ∧ w'.cell? ⟨G, 1, none⟩ = some (.int .i64 pa)) 6 ?_
                    have hHeld := g9
                    clear g9 t0 t1 e0 e1
                    refine wpAnyT_take (i := 0) (oi := { dst := some 45, op := Op.move (Operand.tmp 0), type := 22, pos := "ref.go:31", after := #[], guard := none }) (v := ?v0r14a106) rfl (by kernel_rfl) (fun _ _ _ h => h) (by rfl) hHeld ?h0r14a106 ?_
                    case h0r14a106 => (intro w' hSw; (try dsimp only at hSw); go_simp; try with_reducible rfl)
                    (try simp only [Act.put, List.setIfInBounds_toArray, List.set_cons_zero, List.set_cons_succ])
                    refine wpAnyT_take (i := 1) (oi := { dst := some 46, op := Op.move (Operand.tmp 5), type := 3, pos := "ref.go:31", after := #[], guard := none }) (v := ?v1r14a106) rfl (by kernel_rfl) (fun _ _ _ h => h) (by rfl) hHeld ?h1r14a106 ?_
                    case h1r14a106 => (intro w' hSw; (try dsimp only at hSw); go_simp; try with_reducible rfl)
                    (try simp only [Act.put, List.setIfInBounds_toArray, List.set_cons_zero, List.set_cons_succ])
                    refine wpAnyT_take (i := 2) (oi := { dst := some 47, op := Op.indexAddr 22 (Operand.tmp 45) (Operand.tmp 46), type := 0, pos := "ref.go:31", after := #[{ on := 0, ground := Ground.data }, { on := 1, ground := Ground.data }], guard := none }) (v := ?v2r14a106) rfl (by kernel_rfl) (fun _ _ _ h => h) (by rfl) hHeld ?h2r14a106 ?_
                    case h2r14a106 => (intro w' hSw; (try dsimp only at hSw); go_simp; try with_reducible rfl)
                    (try simp only [Act.put, List.setIfInBounds_toArray, List.set_cons_zero, List.set_cons_succ])
                    refine wpAnyT_take (i := 3) (oi := { dst := some 48, op := Op.load 57 (Operand.tmp 47), type := 57, pos := "ref.go:31", after := #[{ on := 2, ground := Ground.data }], guard := none }) (v := ?v3r14a106) rfl (by kernel_rfl) (fun _ _ _ h => h) (by rfl) hHeld ?h3r14a106 ?_
                    case h3r14a106 => (intro w' hSw; (try dsimp only at hSw); go_simp; try with_reducible rfl)
                    (try simp only [Act.put, List.setIfInBounds_toArray, List.set_cons_zero, List.set_cons_succ])
                    refine wpAnyT_take (i := 4) (oi := { dst := some 49, op := Op.load 57 (Operand.tmp 4), type := 57, pos := "ref.go:31", after := #[], guard := none }) (v := ?v4r14a106) rfl (by kernel_rfl) (fun _ _ _ h => h) (by rfl) hHeld ?h4r14a106 ?_
                    case h4r14a106 => (intro w' hSw; (try dsimp only at hSw); go_simp; try with_reducible rfl)
                    (try simp only [Act.put, List.setIfInBounds_toArray, List.set_cons_zero, List.set_cons_succ])
                    refine wpAnyT_take (i := 5) (oi := { dst := some 50, op := Op.binOp BinOp.eql 57 (Operand.tmp 48) (Operand.tmp 49) 57, type := 4, pos := "ref.go:31", after := #[{ on := 3, ground := Ground.data }, { on := 4, ground := Ground.data }], guard := none }) (v := ?v5r14a106) rfl (by kernel_rfl) (fun _ _ _ h => h) (by rfl) hHeld ?h5r14a106 ?_
                    case h5r14a106 => (intro w' hSw; (try dsimp only at hSw); go_simp; try with_reducible rfl)
                    (try simp only [Act.put, List.setIfInBounds_toArray, List.set_cons_zero, List.set_cons_succ])
                    refine wpAnyT_done (by kernel_rfl) ?_
                    go_wp2
                    go_ret
                    exact ⟨by rw [HF.out]; first | rfl | simp, HB5.out⟩
                  · have HNO2 : Hid (∀ q, q < k + 1 → ps[q]? ≠ some (106, pa)) := Lib.hid (fun q hq => by
                      by_cases hqk : q = k
                      · subst hqk
                        rw [HQ.out]
                        intro e
                        injection e with e
                        injection e with e1 e2
                        exact hqe ⟨e1, e2⟩
                      · exact HNO.out q (by omega))
                    refine wp_region_T (by kernel_rfl) (fun w' => (w'.cell? ⟨b, off + k * 2, none⟩ = some (.int .u8 kq) ∧ w'.cell? ⟨b, off + k * 2 + 1, none⟩ = some (.int .i64 pq)) ∧ w'.cell? ⟨G, 0, none⟩ = some (.int .u8 106) ∧ w'.cell? ⟨G, 1, none⟩ = some (.int .i64 pa)) 6 ?_
                    have hHeld := g9
                    clear g9 t0 t1 e0 e1
                    refine wpAnyT_take (i := 0) (oi := { dst := some 45, op := Op.move (Operand.tmp 0), type := 22, pos := "ref.go:31", after := #[], guard := none }) (v := ?v0r14b106) rfl (by kernel_rfl) (fun _ _ _ h => h) (by rfl) hHeld ?h0r14b106 ?_
                    case h0r14b106 => (intro w' hSw; (try dsimp only at hSw); go_simp; try with_reducible rfl)
                    (try simp only [Act.put, List.setIfInBounds_toArray, List.set_cons_zero, List.set_cons_succ])
                    refine wpAnyT_take (i := 1) (oi := { dst := some 46, op := Op.move (Operand.tmp 5), type := 3, pos := "ref.go:31", after := #[], guard := none }) (v := ?v1r14b106) rfl (by kernel_rfl) (fun _ _ _ h => h) (by rfl) hHeld ?h1r14b106 ?_
                    case h1r14b106 => (intro w' hSw; (try dsimp only at hSw); go_simp; try with_reducible rfl)
                    (try simp only [Act.put, List.setIfInBounds_toArray, List.set_cons_zero, List.set_cons_succ])
                    refine wpAnyT_take (i := 2) (oi := { dst := some 47, op := Op.indexAddr 22 (Operand.tmp 45) (Operand.tmp 46), type := 0, pos := "ref.go:31", after := #[{ on := 0, ground := Ground.data }, { on := 1, ground := Ground.data }], guard := none }) (v := ?v2r14b106) rfl (by kernel_rfl) (fun _ _ _ h => h) (by rfl) hHeld ?h2r14b106 ?_
                    case h2r14b106 => (intro w' hSw; (try dsimp only at hSw); go_simp; try with_reducible rfl)
                    (try simp only [Act.put, List.setIfInBounds_toArray, List.set_cons_zero, List.set_cons_succ])
                    refine wpAnyT_take (i := 3) (oi := { dst := some 48, op := Op.load 57 (Operand.tmp 47), type := 57, pos := "ref.go:31", after := #[{ on := 2, ground := Ground.data }], guard := none }) (v := ?v3r14b106) rfl (by kernel_rfl) (fun _ _ _ h => h) (by rfl) hHeld ?h3r14b106 ?_
                    case h3r14b106 => (intro w' hSw; (try dsimp only at hSw); go_simp; try with_reducible rfl)
                    (try simp only [Act.put, List.setIfInBounds_toArray, List.set_cons_zero, List.set_cons_succ])
                    refine wpAnyT_take (i := 4) (oi := { dst := some 49, op := Op.load 57 (Operand.tmp 4), type := 57, pos := "ref.go:31", after := #[], guard := none }) (v := ?v4r14b106) rfl (by kernel_rfl) (fun _ _ _ h => h) (by rfl) hHeld ?h4r14b106 ?_
                    case h4r14b106 => (intro w' hSw; (try dsimp only at hSw); go_simp; try with_reducible rfl)
                    (try simp only [Act.put, List.setIfInBounds_toArray, List.set_cons_zero, List.set_cons_succ])
                    refine wpAnyT_take (i := 5) (oi := { dst := some 50, op := Op.binOp BinOp.eql 57 (Operand.tmp 48) (Operand.tmp 49) 57, type := 4, pos := "ref.go:31", after := #[{ on := 3, ground := Ground.data }, { on := 4, ground := Ground.data }], guard := none }) (v := .bool false) rfl (by kernel_rfl) (fun _ _ _ h => h) (by rfl) hHeld ?h5r14b106 ?_
                    case h5r14b106 => (intro w' hSw; (try dsimp only at hSw); go_simp; exact fun a b => hqe ⟨a, b⟩)
                    (try simp only [Act.put, List.setIfInBounds_toArray, List.set_cons_zero, List.set_cons_succ])
                    refine wpAnyT_done (by kernel_rfl) ?_
                    go_wp2
                    go_roundg (i - (k + 1))
                    case measure => omega
                    case rel => exact ⟨k + 1, by omega, by go_num, rfl, HNO2.out, HB4.out⟩
                · have hq2 : ¬ (k : Int) < (i : Int) := by omega
                  have hke : k = i := by omega
                  subst hke
                  have HST := Lib.hid (tookP_step HTK.out HP.out HO.out HNO.out)
                  go_wp2
                  go_roundg (n - (k + 1))
                  case measure => omega
                  case rel => exact ⟨k + 1, by omega, by go_num, rfl, HST.out, HB3.out⟩
          · have HF : Hid (r = 121) := Lib.hid (by rw [← HR.out]; unfold prE; rw [HN.out, if_neg HL.out, if_pos (okPs_bad HP.out hk)])
            by_cases k1 : kd = 98
            · subst k1
              by_cases k3 : pa < 0
              · clear hk
                go_wp2
                go_ret
                exact ⟨by rw [HF.out]; first | rfl | simp, HB2.out⟩
              · have k4 : (16384 : Int) ≤ pa := by
                  by_cases k5 : pa < 16384
                  · exact absurd ⟨.inl rfl, by omega, k5⟩ hk
                  · omega
                clear hk
                go_wp2
                go_ret
                exact ⟨by rw [HF.out]; first | rfl | simp, HB2.out⟩
            · by_cases k2 : kd = 106
              · subst k2
                by_cases k3 : pa < 0
                · clear hk
                  go_wp2
                  go_ret
                  exact ⟨by rw [HF.out]; first | rfl | simp, HB2.out⟩
                · have k4 : (16384 : Int) ≤ pa := by
                    by_cases k5 : pa < 16384
                    · exact absurd ⟨.inr rfl, by omega, k5⟩ hk
                    · omega
                  clear hk
                  go_wp2
                  go_ret
                  exact ⟨by rw [HF.out]; first | rfl | simp, HB2.out⟩
              · have k1z : (kd != (98 : Int)) = true := by simpa using k1
                have k2z : (kd != (106 : Int)) = true := by simpa using k2
                clear hk k1 k2
                go_wp2
                go_ret
                exact ⟨by rw [HF.out]; first | rfl | simp, HB2.out⟩
        · have hk1 : ¬ (i : Int) < (n : Int) := by omega
          have hie : i = n := by omega
          subst hie
          have HF : Hid (r = 0) := Lib.hid (by rw [← HR.out]; unfold prE; rw [HN.out, if_neg HL.out, if_neg (by rw [tookP_end (by rw [HN.out]; exact HTK.out) HNE.out]; decide)])
          go_wp2
          go_ret
          exact ⟨by rw [HF.out]; first | rfl | simp, HB.out⟩
end Go.Proofs.YtjbglgmbnjdhcaaDoor

namespace Go.Proofs.YtjbglgmbnjdhcaaDoor
open Go.RowKit

set_option maxHeartbeats 4000000 in
set_option maxRecDepth 100000 in
theorem rTrace_any (w : World) (t : Tr) (vi vr : Value) (h : t.In w ⟨vi, vr⟩) (L n : Nat) :
    Calls Tryd.prog 22 #[.agg #[vi, vr, .int .i64 t.loop], .int .i64 (L : Int), .int .i64 (n : Int)] w fun e w' => e = .returned (.bool (okT t L n)) ∧ Below w.heap.size w w' := by
  obtain ⟨AR, cR, eR, hrm, hrr⟩ := h.r.at_
  have hil := h.i.len
  obtain ⟨AI, nI, cI, eI⟩ := slO_form h.i
  have hin : t.init.length = nI := by
    obtain ⟨A9, c9, e9, _⟩ := h.i.reads lenO (by omega)
    rw [eI] at e9
    injection e9 with _ h2 _
    exact h2.symm
  simp only at eR eI
  subst eR eI
  obtain ⟨nR, hnR⟩ : ∃ k, t.rows.length = k := ⟨_, rfl⟩
  obtain ⟨lp, hlp⟩ : ∃ k, t.loop = k := ⟨_, rfl⟩
  obtain ⟨r, hr⟩ : ∃ k, okT t L n = k := ⟨_, rfl⟩
  rw [hr]
  unfold okT at hr
  rw [hlp, hin, hnR] at hr
  rw [hlp, hnR]
  rw [hnR] at hrm
  have HR := Lib.hid hr
  have HRR := Lib.hid hrr
  have HN := Lib.hid hnR
  unfold maxLen at hrm hil
  rw [hin] at hil
  have HA := Lib.hid (Blk.new w 26 #[.slice AI nI cI, .slice AR nR cR, .int .i64 lp])
  have HB : Hid (Below w.heap.size w (w.alloc (.cells #[.slice AI nI cI, .slice AR nR cR, .int .i64 lp] 26))) := Lib.hid ((Below.refl _ _).alloc (Nat.le_refl _) _)
  clear h hr hrr hnR hlp hin
  by_cases g1 : nI = L
  · have g1z : ((nI : Int) != (L : Int)) = false := by simpa using (by omega : (nI : Int) = L)
    by_cases g2 : 1 ≤ nR
    · have g2z : ¬ (nR : Int) < 1 := by omega
      by_cases g3 : nR ≤ 512
      · have g3z : ¬ (512 : Int) < (nR : Int) := by omega
        by_cases l1 : -1 ≤ lp
        · have l1z : ¬ lp < -1 := by omega
          by_cases l2 : lp < (nR : Int)
          · have l2z : ¬ (nR : Int) ≤ lp := by omega
            have HR3 : Hid (decide (∀ r ∈ t.rows, r.length = n) = r) := Lib.hid (by
              rw [← HR.out]
              apply decide_eq_decide.2
              exact ⟨fun h => ⟨g1, g2, g3, h, l1, l2⟩, fun h => h.2.2.2.1⟩)
            clear g1 g2 g3 l1 l2 HR
            go_enter Tryd.func22, Tryd.ntmps22
            go_upto_region 1 with (fail)
            generalize w.alloc (.cells #[.slice AI nI cI, .slice AR nR cR, .int .i64 lp] 26) = X at HA HB ⊢
            obtain ⟨d0, d1, d2⟩ := trio_of HA.out
            go_upto_region 5 with (fail)
            go_loopg [8] nR (fun j iv wx => ∃ k : Nat, k ≤ nR ∧ iv = .int .i64 k ∧ j = nR - k ∧ (∀ r ∈ t.rows.take k, r.length = n) ∧ wx = X)
            case atStart => exact ⟨0, Nat.zero_le _, rfl, rfl, by simp, rfl⟩
            case round =>
              obtain ⟨k, hk, rfl, hgk, hal, rfl⟩ := hrel
              subst hgk
              have HAL := Lib.hid hal
              clear hal
              by_cases hlt : k < nR
              · obtain ⟨row, hz⟩ : ∃ row, t.rows[k]? = some row := ⟨_, List.getElem?_eq_getElem (by rw [HN.out]; exact hlt)⟩
                obtain ⟨b, off, u, e, hb, hu, hru⟩ := HRR.out k row hz
                subst e
                have hcu := (HB.out.cell (p := ⟨b, off + k, none⟩) hb).trans hu
                obtain ⟨uA, uc, hue, hur⟩ := hru.reads lenO (by omega)
                subst hue
                have hk0 : (0 : Int) ≤ (k : Int) := by omega
                have hk1 : (k : Int) < (nR : Int) := by omega
                obtain ⟨un, hun⟩ : ∃ q, row.length = q := ⟨_, rfl⟩
                rw [hun] at hcu
                have HZ := Lib.hid hz
                have HUN := Lib.hid hun
                clear hz hu hru hur hun
                by_cases hn : un = n
                · have hnz : ((un : Int) != (n : Int)) = false := by simpa using (by omega : (un : Int) = n)
                  have HA2 : Hid (∀ r ∈ t.rows.take (k + 1), r.length = n) := Lib.hid (fun r hr => by
                    rw [List.take_add_one, HZ.out] at hr
                    rcases List.mem_append.1 hr with hr | hr
                    · exact HAL.out r hr
                    · simp only [Option.toList_some, List.mem_singleton] at hr
                      rw [hr, HUN.out]
                      exact hn)
                  clear hn
                  go_wp2
                  go_roundg (nR - (k + 1))
                  case measure => omega
                  case rel => exact ⟨k + 1, by omega, by go_num, rfl, HA2.out, rfl⟩
                · have hnz : ((un : Int) != (n : Int)) = true := by simpa using (by omega : ¬ (un : Int) = n)
                  have HNO : Hid (r = false) := Lib.hid (by
                    rw [← HR3.out]
                    exact decide_eq_false (fun hh => hn (by rw [← HUN.out]; exact hh row (List.mem_of_getElem? HZ.out))))
                  go_wp2
                  go_ret
                  exact ⟨by rw [HNO.out]; first | rfl | simp, HB.out⟩
              · have hk1 : ¬ (k : Int) < (nR : Int) := by omega
                have hke : k = nR := by omega
                have HF : Hid (r = true) := Lib.hid (by
                  rw [← HR3.out]
                  refine decide_eq_true (fun r hr => HAL.out r ?_)
                  rwa [List.take_of_length_le (by rw [HN.out, hke]; exact Nat.le_refl _)])
                clear hke
                go_wp2
                go_ret
                exact ⟨by rw [HF.out]; first | rfl | simp, HB.out⟩
          · have l2z : (nR : Int) ≤ lp := by omega
            have HF : Hid (r = false) := Lib.hid (by rw [← HR.out]; exact decide_eq_false (fun h => l2 h.2.2.2.2.2))
            clear g1 g2 g3 l1 l2 HR
            go_enter Tryd.func22, Tryd.ntmps22
            go_wp2
            go_ret
            exact ⟨by rw [HF.out]; first | rfl | simp, HB.out⟩
        · have l1z : lp < -1 := by omega
          have HF : Hid (r = false) := Lib.hid (by rw [← HR.out]; exact decide_eq_false (fun h => l1 h.2.2.2.2.1))
          clear g1 g2 g3 l1 HR
          go_enter Tryd.func22, Tryd.ntmps22
          go_wp2
          go_ret
          exact ⟨by rw [HF.out]; first | rfl | simp, HB.out⟩
      · have g3z : (512 : Int) < (nR : Int) := by omega
        have HF : Hid (r = false) := Lib.hid (by rw [← HR.out]; exact decide_eq_false (fun h => g3 h.2.2.1))
        clear g1 g2 g3 HR
        go_enter Tryd.func22, Tryd.ntmps22
        go_wp2
        go_ret
        exact ⟨by rw [HF.out]; first | rfl | simp, HB.out⟩
    · have g2z : (nR : Int) < 1 := by omega
      have HF : Hid (r = false) := Lib.hid (by rw [← HR.out]; exact decide_eq_false (fun h => g2 h.2.1))
      clear g1 g2 HR
      go_enter Tryd.func22, Tryd.ntmps22
      go_wp2
      go_ret
      exact ⟨by rw [HF.out]; first | rfl | simp, HB.out⟩
  · have g1z : ((nI : Int) != (L : Int)) = true := by simpa using (by omega : ¬ (nI : Int) = L)
    have HF : Hid (r = false) := Lib.hid (by rw [← HR.out]; exact decide_eq_false (fun h => g1 h.1))
    clear g1 HR
    go_enter Tryd.func22, Tryd.ntmps22
    go_wp2
    go_ret
    exact ⟨by rw [HF.out]; first | rfl | simp, HB.out⟩
set_option maxHeartbeats 8000000 in
set_option maxRecDepth 100000 in
theorem rCheckW_any (w : World) (x : Wit) (vp vi vr : Value) (h : WtIn w x vp vi vr) (L n : Int) :
    Calls Tryd.prog 10 #[.agg #[.int .i64 x.st, vp, vi, vr, .int .i64 x.tr.loop], .int .i64 L, .int .i64 n] w fun e w' => e = .returned (.int .i64 (witE x L n)) ∧ Below w.heap.size w w' := by
  have HAR := Lib.hid (fun (wx : World) => rSizes_any wx L n)
  have HAP := Lib.hid (fun (wx : World) (hb : Below w.heap.size w wx) => rProps_any wx vp x.ps (h.p.below hb))
  have HTF := Lib.hid (fun (wx : World) (hb : Below w.heap.size w wx) => rTrace_any wx x.tr vi vr (h.t.below hb))
  have hil := h.t.i.len
  have hpl := h.p.len
  obtain ⟨AP, cP, eP⟩ := slP_form h.p
  obtain ⟨AR, cR, eR, hrm, _⟩ := h.t.r.at_
  obtain ⟨AI, nI, cI, eI⟩ := slO_form h.t.i
  have hin : x.tr.init.length = nI := by
    obtain ⟨A9, c9, e9, _⟩ := h.t.i.reads lenO (by omega)
    rw [eI] at e9
    injection e9 with _ h2 _
    exact h2.symm
  simp only at eR eI
  subst eP eR eI
  obtain ⟨nR, hnR⟩ : ∃ k, x.tr.rows.length = k := ⟨_, rfl⟩
  obtain ⟨np, hnp⟩ : ∃ k, x.ps.length = k := ⟨_, rfl⟩
  obtain ⟨st, hst⟩ : ∃ k, x.st = k := ⟨_, rfl⟩
  obtain ⟨lp, hlp⟩ : ∃ k, x.tr.loop = k := ⟨_, rfl⟩
  obtain ⟨r, hr⟩ : ∃ k, witE x L n = k := ⟨_, rfl⟩
  obtain ⟨pe, hpe⟩ : ∃ k, prE x.ps = k := ⟨_, rfl⟩
  rw [hr]
  have HNT : Hid (decide (nI = 0 ∧ nR = 0 ∧ lp = 0) = noT x.tr) := Lib.hid (by unfold noT; rw [hin, hnR, hlp])
  unfold witE at hr
  rw [hst] at hr
  rw [hlp, hnR] at HTF
  rw [hnp, hpe] at HAP
  rw [hst, hlp, hnR, hnp]
  have HR := Lib.hid hr
  have HPE := Lib.hid hpe
  have HST := Lib.hid hst
  unfold maxLen at hrm hil hpl
  rw [hin] at hil
  rw [hnR] at hrm
  rw [hnp] at hpl
  have HA := Lib.hid (Blk.new w 28 #[.int .i64 st, .slice AP np cP, .slice AI nI cI, .slice AR nR cR, .int .i64 lp])
  have HB : Hid (Below w.heap.size w (w.alloc (.cells #[.int .i64 st, .slice AP np cP, .slice AI nI cI, .slice AR nR cR, .int .i64 lp] 28))) := Lib.hid ((Below.refl _ _).alloc (Nat.le_refl _) _)
  clear h hr hnR hnp hst hlp hin hpe
  go_enter Tryd.func10, Tryd.ntmps10
  go_upto_region 1 with (fail)
  generalize w.alloc (.cells #[.int .i64 st, .slice AP np cP, .slice AI nI cI, .slice AR nR cR, .int .i64 lp] 28) = X at HA HB ⊢
  obtain ⟨c0, c1, c2, c3, c4⟩ := five_of HA.out
  by_cases hc : 0 ≤ L ∧ L ≤ 16384 ∧ 0 ≤ n ∧ n ≤ 16384
  · rw [decide_eq_true hc] at HAR
    have HR1 := HR.out
    rw [if_neg (fun h => h hc)] at HR1
    have HLN := Lib.hid hc
    by_cases h1 : st < 0
    · have HF : Hid (r = 120) := Lib.hid (by rw [← HR1, if_pos (.inl h1)])
      clear HR1 hc
      go_wp2_with (go_at_call 20; refine (HAR.out _).mono ?_; rintro e w9 ⟨rfl, rfl⟩)
      go_ret
      exact ⟨by rw [HF.out]; first | rfl | simp, HB.out⟩
    · by_cases h2 : 2 < st
      · have HF : Hid (r = 120) := Lib.hid (by rw [← HR1, if_pos (.inr h2)])
        clear HR1 hc
        go_wp2_with (go_at_call 20; refine (HAR.out _).mono ?_; rintro e w9 ⟨rfl, rfl⟩)
        go_ret
        exact ⟨by rw [HF.out]; first | rfl | simp, HB.out⟩
      · rw [if_neg (fun h => h.elim h1 h2)] at HR1
        have HR2 := Lib.hid HR1
        clear HR1 hc HR
        by_cases h3 : pe = 0
        · have h3z : ((0 : Int) != 0) = false := rfl
          subst h3
          have HR3 : Hid ((if fitW x L.toNat n.toNat = false then (4 : Int) else 0) = r) := Lib.hid (by
            have h9 := HPE.out
            rw [← HR2.out]
            unfold prE at h9
            split at h9
            · cases h9
            · rename_i h8
              split at h9
              · cases h9
              · rename_i h7
                rw [if_neg h8, if_neg h7])
          clear HR2
          obtain ⟨Ln, rfl⟩ : ∃ k : Nat, L = k := ⟨L.toNat, by have := HLN.out; omega⟩
          obtain ⟨nn, rfl⟩ : ∃ k : Nat, n = k := ⟨n.toNat, by have := HLN.out; omega⟩
          have HTF2 := Lib.hid (fun (wx : World) (hb : Below w.heap.size w wx) => HTF.out wx hb Ln nn)
          have HR4 := HR3.out
          rw [Int.toNat_natCast, Int.toNat_natCast] at HR4
          have HR5 := Lib.hid HR4
          clear HTF HR4 HR3
          go_upto_region 8 with (first
            | (go_at_call 20; refine (HAR.out _).mono ?_; rintro e w9 ⟨rfl, rfl⟩)
            | (go_at_call 21; refine (HAP.out X HB.out).mono ?_; rintro e w' ⟨rfl, hb⟩; have HB2 := Lib.hid (bt HB.out (Nat.le_refl _) hb); have HA2 := Lib.hid (Blk.below HA.out hb (Blk.lt HA.out)); clear hb c0 c1 c2 c3 c4; obtain ⟨c0, c1, c2, c3, c4⟩ := five_of HA2.out))
          go_cut [8] (fun v wx => v = .bool (decide (nI = 0 ∧ nR = 0 ∧ lp = 0)) ∧ wx = w')
          case first =>
            by_cases g1 : nI = 0
            · have g1z : ((nI : Int) == (0 : Int)) = true := by simpa using g1
              by_cases g2 : nR = 0
              · have g2z : ((nR : Int) == (0 : Int)) = true := by simpa using g2
                by_cases g3 : lp = 0
                · have g3z : (lp == (0 : Int)) = true := by simpa using g3
                  have HD : Hid (decide (nI = 0 ∧ nR = 0 ∧ lp = 0) = true) := Lib.hid (decide_eq_true (⟨g1, g2, g3⟩ : nI = 0 ∧ nR = 0 ∧ lp = 0))
                  clear g1 g2 g3
                  go_wp2_with (fail)
                  go_meet
                  exact ⟨by rw [HD.out], rfl⟩
                · have g3z : (lp == (0 : Int)) = false := by simpa using g3
                  have HD : Hid (decide (nI = 0 ∧ nR = 0 ∧ lp = 0) = false) := Lib.hid (decide_eq_false (fun h => g3 h.2.2 : ¬ (nI = 0 ∧ nR = 0 ∧ lp = 0)))
                  clear g1 g2 g3
                  go_wp2_with (fail)
                  go_meet
                  exact ⟨by rw [HD.out], rfl⟩
              · have g2z : ((nR : Int) == (0 : Int)) = false := by simpa using g2
                have HD : Hid (decide (nI = 0 ∧ nR = 0 ∧ lp = 0) = false) := Lib.hid (decide_eq_false (fun h => g2 h.2.1 : ¬ (nI = 0 ∧ nR = 0 ∧ lp = 0)))
                clear g1 g2
                go_wp2_with (fail)
                go_meet
                exact ⟨by rw [HD.out], rfl⟩
            · have g1z : ((nI : Int) == (0 : Int)) = false := by simpa using g1
              have HD : Hid (decide (nI = 0 ∧ nR = 0 ∧ lp = 0) = false) := Lib.hid (decide_eq_false (fun h => g1 h.1 : ¬ (nI = 0 ∧ nR = 0 ∧ lp = 0)))
              clear g1
              go_wp2_with (fail)
              go_meet
              exact ⟨by rw [HD.out], rfl⟩
          case rest =>
            obtain ⟨rfl, rfl⟩ := hcut
            rw [HNT.out]
            by_cases hs : st = 1
            · have hsz : (st == (1 : Int)) = true := by simpa using hs
              have hsy : (st != (1 : Int)) = false := by simpa using hs
              have HFW : Hid (fitW x Ln nn = okT x.tr Ln nn) := Lib.hid (by unfold fitW; rw [HST.out, if_pos hs])
              clear hs
              cases hf : okT x.tr Ln nn with
              | false =>
                rw [hf] at HTF2 HFW
                have HF : Hid (r = 4) := Lib.hid (by rw [← HR5.out, HFW.out]; rfl)
                clear hf
                go_wp2_with (go_at_call 22; refine (HTF2.out _ HB2.out).mono ?_; rintro e w9 ⟨rfl, hb⟩; have HB3 := Lib.hid (bt HB2.out (Nat.le_refl _) hb); clear hb)
                go_ret
                exact ⟨by rw [HF.out]; first | rfl | simp, HB3.out⟩
              | true =>
                rw [hf] at HTF2 HFW
                have HF : Hid (r = 0) := Lib.hid (by rw [← HR5.out, HFW.out]; rfl)
                have HA3 := HA2
                clear hf
                go_wp2_with (go_at_call 22; refine (HTF2.out _ HB2.out).mono ?_; rintro e w9 ⟨rfl, hb⟩; have HB3 := Lib.hid (bt HB2.out (Nat.le_refl _) hb); have HA4 := Lib.hid (Blk.below HA3.out hb (Blk.lt HA3.out)); clear hb c0 c1 c2 c3 c4; obtain ⟨c0, c1, c2, c3, c4⟩ := five_of HA4.out)
                go_ret
                exact ⟨by rw [HF.out]; first | rfl | simp, HB3.out⟩
            · have hsz : (st == (1 : Int)) = false := by simpa using hs
              have hsy : (st != (1 : Int)) = true := by simpa using hs
              have HFW : Hid (fitW x Ln nn = noT x.tr) := Lib.hid (by unfold fitW; rw [HST.out, if_neg hs])
              clear hs
              cases hf : noT x.tr with
              | false =>
                rw [hf] at HFW
                have HF : Hid (r = 4) := Lib.hid (by rw [← HR5.out, HFW.out]; rfl)
                clear hf
                go_wp2
                go_ret
                exact ⟨by rw [HF.out]; first | rfl | simp, HB2.out⟩
              | true =>
                rw [hf] at HFW
                have HF : Hid (r = 0) := Lib.hid (by rw [← HR5.out, HFW.out]; rfl)
                clear hf
                go_wp2
                go_ret
                exact ⟨by rw [HF.out]; first | rfl | simp, HB2.out⟩
        · have h3z : (pe != (0 : Int)) = true := by simpa using h3
          have HF : Hid (r = pe) := Lib.hid (by
            have h9 := HPE.out
            rw [← HR2.out, ← h9]
            unfold prE at h9 ⊢
            split at h9
            · rename_i h8
              rw [if_pos h8, if_pos h8]
            · rename_i h8
              split at h9
              · rename_i h7
                rw [if_neg h8, if_neg h8, if_pos h7, if_pos h7]
              · exact absurd h9.symm h3)
          clear h3
          go_wp2_with (first
            | (go_at_call 20; refine (HAR.out _).mono ?_; rintro e w9 ⟨rfl, rfl⟩)
            | (go_at_call 21; refine (HAP.out X HB.out).mono ?_; rintro e w' ⟨rfl, hb⟩; have HB2 := Lib.hid (bt HB.out (Nat.le_refl _) hb); clear hb))
          go_ret
          exact ⟨by rw [HF.out]; first | rfl | simp, HB2.out⟩
  · rw [decide_eq_false hc] at HAR
    have HF : Hid (r = 1) := Lib.hid (by rw [← HR.out, if_pos hc])
    clear HR hc
    go_wp2_with (go_at_call 20; refine (HAR.out _).mono ?_; rintro e w9 ⟨rfl, rfl⟩)
    go_ret
    exact ⟨by rw [HF.out]; first | rfl | simp, HB.out⟩
end Go.Proofs.YtjbglgmbnjdhcaaDoor

/- The walk of StimForth. -/
import Derived.Test.YtjbglgmbnjdhcaaDoorStmU
namespace Go.Proofs.YtjbglgmbnjdhcaaDoor
open Go.RowKit

theorem RdPost.vals {w w' : World} {s : Bs} {R : Option Wit} {e : Ending} (h : RdPost w s R e w') : ∃ (st lp at' code : Int) (A1 : Option Addr) (n1 k1 : Nat) (A2 : Option Addr) (n2 k2 : Nat) (A3 : Option Addr) (n3 k3 : Nat), Below w.heap.size w w' ∧ e = .returned (.tuple #[.agg #[.int .i64 st, .slice A1 n1 k1, .slice A2 n2 k2, .slice A3 n3 k3, .int .i64 lp], .agg #[.int .i64 at', .int .i64 code]]) ∧ (R = none → code ≠ 0 ∧ 0 ≤ at' ∧ at' ≤ (s.length : Int) ∧ st = 0 ∧ n1 = 0) ∧ ∀ x, R = some x → at' = 0 ∧ code = 0 ∧ st = x.st ∧ lp = x.tr.loop ∧ OwnW w' w.heap.size x (.slice A1 n1 k1) (.slice A2 n2 k2) (.slice A3 n3 k3) := by
  obtain ⟨hb, st, lp, at', code, vp, vi, vr, rfl, h1, h2⟩ := h
  cases R with
  | none =>
    obtain ⟨a1, a2, a3, a4, a5, rfl, rfl, rfl⟩ := h1 rfl
    exact ⟨st, lp, at', code, _, _, _, _, _, _, _, _, _, hb, rfl, fun _ => ⟨a1, a2, a3, a4, rfl⟩, fun x hx => by cases hx⟩
  | some x =>
    obtain ⟨a1, a2, a3, a4, ho⟩ := h2 x rfl
    obtain ⟨A1, n1, k1, A2, n2, k2, A3, n3, k3, rfl, rfl, rfl⟩ := ho.slices
    exact ⟨st, lp, at', code, _, _, _, _, _, _, _, _, _, hb, rfl, fun hx => (by cases hx), fun y hy => by
      injection hy with hy
      subst hy
      exact ⟨a1, a2, a3, a4, ho⟩⟩
theorem rboxes (w4 : World) (r f : Array Value) : Below w4.heap.size w4 ((((w4.alloc (.cells #[.int .i64 0, .slice none 0 0, .slice none 0 0, .slice none 0 0, .int .i64 0] 28)).alloc (.cells #[.int .i64 0, .int .i64 0] 40)).setRow w4.heap.size r).setRow (w4.heap.size + 1) f) ∧ Blk ((((w4.alloc (.cells #[.int .i64 0, .slice none 0 0, .slice none 0 0, .slice none 0 0, .int .i64 0] 28)).alloc (.cells #[.int .i64 0, .int .i64 0] 40)).setRow w4.heap.size r).setRow (w4.heap.size + 1) f) w4.heap.size 28 r ∧ Blk ((((w4.alloc (.cells #[.int .i64 0, .slice none 0 0, .slice none 0 0, .slice none 0 0, .int .i64 0] 28)).alloc (.cells #[.int .i64 0, .int .i64 0] 40)).setRow w4.heap.size r).setRow (w4.heap.size + 1) f) (w4.heap.size + 1) 40 f := by
  have h1 := (Blk.new w4 28 #[.int .i64 0, .slice none 0 0, .slice none 0 0, .slice none 0 0, .int .i64 0]).alloc (.cells #[.int .i64 0, .int .i64 0] 40)
  have h2 : Blk ((w4.alloc (.cells #[.int .i64 0, .slice none 0 0, .slice none 0 0, .slice none 0 0, .int .i64 0] 28)).alloc (.cells #[.int .i64 0, .int .i64 0] 40)) (w4.heap.size + 1) 40 #[.int .i64 0, .int .i64 0] := Blk.new_ _ _ _ _ (by simp)
  exact ⟨below_setRow (below_setRow (((Below.refl _ _).alloc (Nat.le_refl _) _).alloc (by simp) _) (Nat.le_refl _)) (by omega), far_row (setRow_heap _ _ _ _ _ _ h1) (by omega), setRow_heap _ _ _ _ _ _ (far_row h2 (by omega))⟩
theorem hasX_step {s : Bs} {k : Nat} {c : UInt8} (h : s[k]? = some c) : decide ((120 : UInt8) ∈ s.take (k + 1)) = (decide ((120 : UInt8) ∈ s.take k) || c == 120) := by
  rw [List.take_add_one, h]
  by_cases h1 : (120 : UInt8) ∈ s.take k
  · simp [h1]
  · by_cases h2 : c = 120
    · subst h2; simp
    · have h3 : (c == 120) = false := by simpa using h2
      rw [decide_eq_false h1, h3]
      simp only [Bool.or_false]
      exact decide_eq_false (fun hm => by
        rcases List.mem_append.1 hm with hm | hm
        · exact h1 hm
        · simp only [Option.toList_some, List.mem_singleton] at hm
          exact h2 hm.symm)
set_option maxHeartbeats 4000000 in
set_option maxRecDepth 100000 in
theorem stimForth_any (w : World) (B : Nat) (s t : Bs) (hs : s.length ≤ 140737488355328) (ht : t.length ≤ 140737488355328) (L n : Int) (lib : LibB B w) (hB : B ≤ w.heap.size) :
    Calls Tryd.prog 4 #[.string (strB s), .string (strB t), .agg #[.int .i64 L, .int .i64 n]] w fun e w' => e = .returned (.bool true) ∧ Below w.heap.size w w' := by
  have HWK := Lib.hid (fun (wx : World) (hb : Below w.heap.size w wx) => works_any wx B (lib.up hB hb) (Nat.le_trans hB hb.size))
  have HRS := Lib.hid (fun (wx : World) (hb : Below w.heap.size w wx) => read_any wx B s L n (lib.up hB hb) (Nat.le_trans hB hb.size))
  have HRT := Lib.hid (fun (wx : World) (hb : Below w.heap.size w wx) => read_any wx B t L n (lib.up hB hb) (Nat.le_trans hB hb.size))
  have HAL := Lib.hid (fun (wx : World) (hb : Below w.heap.size w wx) => all_any wx B (s ++ t) L n (lib.up hB hb) (Nat.le_trans hB hb.size))
  have HCK := Lib.hid (fun (wx : World) (x : Wit) (vp vi vr : Value) (h : WtIn wx x vp vi vr) (hw : ∀ p ∈ x.ps, (0 ≤ p.1 ∧ p.1 ≤ 255) ∧ I64 p.2) => check_any wx x vp vi vr h hw L n)
  have HPR := Lib.hid (fun (wx : World) (x : Wit) (vp vi vr : Value) (hb : Below w.heap.size w wx) (h : WtIn wx x vp vi vr) (hw : ∀ p ∈ x.ps, (0 ≤ p.1 ∧ p.1 ≤ 255) ∧ I64 p.2) => print_any wx B x vp vi vr h hw L n (lib.up hB hb) (Nat.le_trans hB hb.size))
  have hsz : (strB s).size = s.length := strB_size s
  have htz : (strB t).size = t.length := strB_size t
  have HZ0 := Lib.hid (Blk.new w 30 #[.int .i64 L, .int .i64 n])
  have HB0 : Hid (Below w.heap.size w (w.alloc (.cells #[.int .i64 L, .int .i64 n] 30))) := Lib.hid ((Below.refl _ _).alloc (Nat.le_refl _) _)
  clear lib
  go_enter Tryd.func4, Tryd.ntmps4
  go_upto_region 1 with (fail)
  generalize w.alloc (.cells #[.int .i64 L, .int .i64 n] 30) = X at HZ0 HB0 ⊢
  go_upto_region 3 with (go_at_call 12; refine (HWK.out X HB0.out).mono ?_; rintro e w1 ⟨rfl, hb1⟩; have HB1 := Lib.hid (bt HB0.out (Nat.le_refl _) hb1); have HZ1 := Lib.hid (Blk.below HZ0.out hb1 (Blk.lt HZ0.out)); clear hb1)
  clear HB0 HZ0
  obtain ⟨d0, d1⟩ := duo_of HZ1.out
  go_upto_region 4 with (first
    | (go_at_call 13; refine (HRS.out w1 HB1.out).mono ?_; intro e w2 hp2; obtain ⟨sta, lpa, ata, coa, A1a, n1a, k1a, A2a, n2a, k2a, A3a, n3a, k3a, hb2, rfl, hno2, hyes2⟩ := hp2.vals; clear hp2; have HNO := Lib.hid hno2; have HYE := Lib.hid hyes2; have HB2 := Lib.hid (bt HB1.out (Nat.le_refl _) hb2); have HZ2 := Lib.hid (Blk.below HZ1.out hb2 (Blk.lt HZ1.out)); have HNA := Lib.hid ((Blk.new w2 28 #[.int .i64 0, .slice none 0 0, .slice none 0 0, .slice none 0 0, .int .i64 0]).alloc (.cells #[.int .i64 0, .int .i64 0] 40)); have HNF : Hid (Blk ((w2.alloc (.cells #[.int .i64 0, .slice none 0 0, .slice none 0 0, .slice none 0 0, .int .i64 0] 28)).alloc (.cells #[.int .i64 0, .int .i64 0] 40)) (w2.heap.size + 1) 40 #[.int .i64 0, .int .i64 0]) := Lib.hid (Blk.new_ _ _ _ _ (by simp)); have HSW : Hid (w1.heap.size ≤ w2.heap.size) := Lib.hid hb2.size; clear hb2 hno2 hyes2)
    | (refine wpList_store_row rfl 28 (.tmp 7) (.tmp 26) rfl w2.heap.size #[.int .i64 sta, .slice A1a n1a k1a, .slice A2a n2a k2a, .slice A3a n3a k3a, .int .i64 lpa] rfl rfl 28 _ HNA.out (by kernel_rfl) rfl (by simp [Value.oneCell']) ?_)
    | (refine wpList_store_row rfl 40 (.tmp 8) (.tmp 27) rfl (w2.heap.size + 1) #[.int .i64 ata, .int .i64 coa] rfl rfl 40 _ (far_row HNF.out (by omega)) (by kernel_rfl) rfl (by simp [Value.oneCell']) ?_))
  obtain ⟨hrb, hra, hrf⟩ := rboxes w2 #[.int .i64 sta, .slice A1a n1a k1a, .slice A2a n2a k2a, .slice A3a n3a k3a, .int .i64 lpa] #[.int .i64 ata, .int .i64 coa]
  have HB3 := Lib.hid (bt HB2.out (Nat.le_refl _) hrb)
  have HZ3 := Lib.hid (Blk.below HZ2.out hrb (Blk.lt HZ2.out))
  have HKA := Lib.hid hra
  have HKF := Lib.hid hrf
  have HOW : Hid (∀ x, readW L n s = some x → WtIn ((((w2.alloc (.cells #[.int .i64 0, .slice none 0 0, .slice none 0 0, .slice none 0 0, .int .i64 0] 28)).alloc (.cells #[.int .i64 0, .int .i64 0] 40)).setRow w2.heap.size #[.int .i64 sta, .slice A1a n1a k1a, .slice A2a n2a k2a, .slice A3a n3a k3a, .int .i64 lpa]).setRow (w2.heap.size + 1) #[.int .i64 ata, .int .i64 coa]) x (.slice A1a n1a k1a) (.slice A2a n2a k2a) (.slice A3a n3a k3a)) := Lib.hid (fun x hx => ((HYE.out x hx).2.2.2.2.in_).below hrb)
  clear hrb hra hrf HNA HNF HB2 HZ2 HB1 HZ1 d0 d1
  generalize ((((w2.alloc (.cells #[.int .i64 0, .slice none 0 0, .slice none 0 0, .slice none 0 0, .int .i64 0] 28)).alloc (.cells #[.int .i64 0, .int .i64 0] 40)).setRow w2.heap.size #[.int .i64 sta, .slice A1a n1a k1a, .slice A2a n2a k2a, .slice A3a n3a k3a, .int .i64 lpa]).setRow (w2.heap.size + 1) #[.int .i64 ata, .int .i64 coa]) = X3 at HB3 HZ3 HKA HKF HOW ⊢
  generalize w2.heap.size = g3 at HKA HKF ⊢
  obtain ⟨f0, f1⟩ := duo_of HKF.out
  obtain ⟨c0, c1, c2, c3, c4⟩ := five_of HKA.out
  obtain ⟨R, hR⟩ : ∃ R, readW L n s = R := ⟨_, rfl⟩
  rw [hR] at HNO HYE HOW
  have hbld := build_f0
  cases R with
  | none =>
    obtain ⟨hc, ha0, ha1, hst, hn1⟩ := HNO.out rfl
    subst hst hn1
    have hcz : (coa == (0 : Int)) = false := by simpa using hc
    clear hc
    go_wp2
    go_ret
    exact ⟨by simp, HB3.out⟩
  | some x =>
    obtain ⟨rfl, rfl, rfl, rfl, _⟩ := HYE.out x rfl
    obtain ⟨r1, r2, r3, r4⟩ := read_some hR
    have HW3 := Lib.hid (HOW.out x rfl)
    have hwf : ∀ p ∈ x.ps, (0 ≤ p.1 ∧ p.1 ≤ 255) ∧ I64 p.2 := fun p hp => by
      have := (witE_ok r1).1.p p hp
      unfold okP at this
      unfold I64
      omega
    have HP3 := Lib.hid (HPR.out X3 x _ _ _ HB3.out HW3.out hwf)
    rw [r4] at HP3
    have HCX := Lib.hid (fun (wx : World) (h : WtIn wx x (.slice A1a n1a k1a) (.slice A2a n2a k2a) (.slice A3a n3a k3a)) => HCK.out wx x _ _ _ h hwf)
    rw [r1] at HCX
    have HTX := Lib.hid (And.intro r2 r3)
    have HRX := Lib.hid hR
    clear r1 r2 r3 r4 hwf HNO HYE HOW HPR HCK hR
    obtain ⟨d0, d1⟩ := duo_of HZ3.out
    go_upto_region 7 with (go_at_call 7; refine HP3.out.mono ?_; rintro e w4 ⟨rfl, hb4⟩; have HB4 := Lib.hid (bt HB3.out (Nat.le_refl _) hb4); have HZ4 := Lib.hid (Blk.below HZ3.out hb4 (Blk.lt HZ3.out)); have HKA4 := Lib.hid (Blk.below HKA.out hb4 (Blk.lt HKA.out)); have HW4 := Lib.hid (HW3.out.below hb4); clear hb4)
    clear f0 f1 c0 c1 c2 c3 c4 d0 d1 HB3 HZ3 HKA HKF HW3 HP3
    obtain ⟨sl, hsl⟩ : ∃ k, s.length = k := ⟨_, rfl⟩
    rw [hsl] at hsz
    have HSL := Lib.hid hsl
    have hsb : sl ≤ 140737488355328 := by rw [← hsl]; exact hs
    clear hsl
    go_upto_region 9 with (fail)
    go_loopg [11, 12] sl (fun j xv iv wx => ∃ k : Nat, k ≤ sl ∧ iv = .int .i64 k ∧ j = sl - k ∧ xv = .bool (decide ((120 : UInt8) ∈ s.take k)) ∧ wx = w4)
    case atStart => exact ⟨0, Nat.zero_le _, rfl, rfl, by simp, rfl⟩
    case round =>
      obtain ⟨k, hk, rfl, hgk, rfl, rfl⟩ := hrel
      subst hgk
      have hk0 : (0 : Int) ≤ (k : Int) := by omega
      by_cases hlt : k < sl
      · obtain ⟨ch, hch⟩ : ∃ ch, s[k]? = some ch := ⟨_, List.getElem?_eq_getElem (by rw [HSL.out]; exact hlt)⟩
        have hk1 : (k : Int) < (sl : Int) := by omega
        have HST := Lib.hid (hasX_step hch)
        have hks : k < (strB s).size := by rw [hsz]; exact hlt
        have hx : (strB s)[k]'hks = ch := by
          have h1 := Lib.data_getElem? (strB s) k hks
          rw [strB_list, hch] at h1
          injection h1 with h1
          exact h1.symm
        clear hch
        obtain ⟨bx, hbx⟩ : ∃ b, decide ((120 : UInt8) ∈ s.take k) = b := ⟨_, rfl⟩
        rw [hbx] at HST ⊢
        clear hbx
        obtain ⟨cx, hcx⟩ : ∃ b, (ch == 120) = b := ⟨_, rfl⟩
        have hcy : ((ch.toNat : Int) == (120 : Int)) = cx := by
          rw [← hcx]
          by_cases h9 : ch = 120
          · subst h9; rfl
          · rw [beq_eq_false_iff_ne.2 h9]
            exact beq_eq_false_iff_ne.2 (fun h8 => h9 (UInt8.toNat_inj.1 (by simpa using (by omega : ch.toNat = 120))))
        rw [hcx] at HST
        clear hcx
        cases bx with
        | true =>
          go_wp2
          go_roundg (sl - (k + 1))
          case measure => omega
          case rel => exact ⟨k + 1, by omega, by go_num, rfl, by rw [HST.out]; rfl, rfl⟩
        | false =>
          go_wp2
          go_roundg (sl - (k + 1))
          case measure => omega
          case rel => exact ⟨k + 1, by omega, by go_num, rfl, by rw [HST.out]; rfl, rfl⟩
      · have hk1 : ¬ (k : Int) < (sl : Int) := by omega
        have hke : k = sl := by omega
        obtain ⟨hx, hhx⟩ : ∃ b, decide ((120 : UInt8) ∈ s.take k) = b := ⟨_, rfl⟩
        rw [List.take_of_length_le (by rw [HSL.out, hke]; exact Nat.le_refl _)] at hhx
        rw [show decide ((120 : UInt8) ∈ s.take k) = hx from by rw [List.take_of_length_le (by rw [HSL.out, hke]; exact Nat.le_refl _)]; exact hhx]
        have HNX : Hid (hx = false → textW x = s) := Lib.hid (fun h9 => HTX.out.2 (of_decide_eq_false (hhx.trans h9)))
        have hxz : (strB (textW x)).size = sl := by rw [strB_size, HTX.out.1, HSL.out]
        have hxe : hx = false → ((strB (textW x)).toList == (strB s).toList) = true := fun h9 => by rw [HNX.out h9]; simp
        clear hke hk1 hk0 hk hhx
        obtain ⟨c0, c1, c2, c3, c4⟩ := five_of HKA4.out
        obtain ⟨d0, d1⟩ := duo_of HZ4.out
        generalize strB (textW x) = U at hxz hxe ⊢
        cases hx with
        | true =>
          clear hxe
          go_upto_region 14 with (go_at_call 9; refine (HCX.out wr HW4.out).mono ?_; rintro e w5 ⟨rfl, hb5⟩; have HB5 := Lib.hid (bt HB4.out (Nat.le_refl _) hb5); have HZ5 := Lib.hid (Blk.below HZ4.out hb5 (Blk.lt HZ4.out)); have HKA5 := Lib.hid (Blk.below HKA4.out hb5 (Blk.lt HKA4.out)); have HW5 := Lib.hid (HW4.out.below hb5); clear hb5)
          clear c0 c1 c2 c3 c4 d0 d1 HB4 HZ4 HKA4 HW4 HCX
          obtain ⟨d0, d1⟩ := duo_of HZ5.out
          go_upto_region 15 with (first
            | (go_at_call 13; refine (HRT.out w5 HB5.out).mono ?_; intro e w6 hp6; obtain ⟨stb, lpb, atb, cob, A1b, n1b, k1b, A2b, n2b, k2b, A3b, n3b, k3b, hb6, rfl, hno6, hyes6⟩ := hp6.vals; clear hp6; have HNO := Lib.hid hno6; have HYE := Lib.hid hyes6; have HB6 := Lib.hid (bt HB5.out (Nat.le_refl _) hb6); have HZ6 := Lib.hid (Blk.below HZ5.out hb6 (Blk.lt HZ5.out)); have HKA6 := Lib.hid (Blk.below HKA5.out hb6 (Blk.lt HKA5.out)); have HW6 := Lib.hid (HW5.out.below hb6); have HNA := Lib.hid ((Blk.new w6 28 #[.int .i64 0, .slice none 0 0, .slice none 0 0, .slice none 0 0, .int .i64 0]).alloc (.cells #[.int .i64 0, .int .i64 0] 40)); have HNF : Hid (Blk ((w6.alloc (.cells #[.int .i64 0, .slice none 0 0, .slice none 0 0, .slice none 0 0, .int .i64 0] 28)).alloc (.cells #[.int .i64 0, .int .i64 0] 40)) (w6.heap.size + 1) 40 #[.int .i64 0, .int .i64 0]) := Lib.hid (Blk.new_ _ _ _ _ (by simp)); clear hb6 hno6 hyes6)
            | (refine wpList_store_row rfl 28 (.tmp 13) (.tmp 108) rfl w6.heap.size #[.int .i64 stb, .slice A1b n1b k1b, .slice A2b n2b k2b, .slice A3b n3b k3b, .int .i64 lpb] rfl rfl 28 _ HNA.out (by kernel_rfl) rfl (by simp [Value.oneCell']) ?_)
            | (refine wpList_store_row rfl 40 (.tmp 14) (.tmp 109) rfl (w6.heap.size + 1) #[.int .i64 atb, .int .i64 cob] rfl rfl 40 _ (far_row HNF.out (by omega)) (by kernel_rfl) rfl (by simp [Value.oneCell']) ?_))
          obtain ⟨hrb, hra, hrf⟩ := rboxes w6 #[.int .i64 stb, .slice A1b n1b k1b, .slice A2b n2b k2b, .slice A3b n3b k3b, .int .i64 lpb] #[.int .i64 atb, .int .i64 cob]
          have HB7 := Lib.hid (bt HB6.out (Nat.le_refl _) hrb)
          have HZ7 := Lib.hid (Blk.below HZ6.out hrb (Blk.lt HZ6.out))
          have HKA7 := Lib.hid (Blk.below HKA6.out hrb (Blk.lt HKA6.out))
          have HW7 := Lib.hid (HW6.out.below hrb)
          have HLA := Lib.hid hra
          have HLF := Lib.hid hrf
          have HOY : Hid (∀ y, readW L n t = some y → WtIn ((((w6.alloc (.cells #[.int .i64 0, .slice none 0 0, .slice none 0 0, .slice none 0 0, .int .i64 0] 28)).alloc (.cells #[.int .i64 0, .int .i64 0] 40)).setRow w6.heap.size #[.int .i64 stb, .slice A1b n1b k1b, .slice A2b n2b k2b, .slice A3b n3b k3b, .int .i64 lpb]).setRow (w6.heap.size + 1) #[.int .i64 atb, .int .i64 cob]) y (.slice A1b n1b k1b) (.slice A2b n2b k2b) (.slice A3b n3b k3b)) := Lib.hid (fun y hy => ((HYE.out y hy).2.2.2.2.in_).below hrb)
          clear hrb hra hrf HNA HNF HB6 HZ6 HKA6 HW6 HB5 HZ5 HKA5 HW5 d0 d1
          generalize ((((w6.alloc (.cells #[.int .i64 0, .slice none 0 0, .slice none 0 0, .slice none 0 0, .int .i64 0] 28)).alloc (.cells #[.int .i64 0, .int .i64 0] 40)).setRow w6.heap.size #[.int .i64 stb, .slice A1b n1b k1b, .slice A2b n2b k2b, .slice A3b n3b k3b, .int .i64 lpb]).setRow (w6.heap.size + 1) #[.int .i64 atb, .int .i64 cob]) = X7 at HB7 HZ7 HKA7 HW7 HLA HLF HOY ⊢
          generalize w6.heap.size = g7 at HLA HLF ⊢
          obtain ⟨d0, d1⟩ := duo_of HZ7.out
          obtain ⟨tl, htl⟩ : ∃ k, t.length = k := ⟨_, rfl⟩
          rw [htl] at htz
          have htb : tl ≤ 140737488355328 := by rw [← htl]; exact ht
          have HTL := Lib.hid htl
          have hcat := cat_strB s t
          rw [← hcat] at HAL
          have hnl : ¬ 9223372036854775807 < sl + tl := by omega
          have hwr : IntKind.i64.wrap ((sl : Int) + (tl : Int)) = (sl : Int) + (tl : Int) := by rw [IntKind.wrap_i64]; omega
          clear htl hcat
          go_upto_region 16 with (first
            | (go_at_call 14; refine (HAL.out X7 HB7.out).mono ?_; rintro e w8 ⟨hb8, atc, coc, A6, k6, c6, rfl, hyes8⟩; have HYA := Lib.hid hyes8; have HB8 := Lib.hid hb8; have HNG := Lib.hid (Blk.new w8 40 #[.int .i64 0, .int .i64 0]); clear hb8 hyes8)
            | (refine wpList_store_row rfl 40 (.tmp 16) (.tmp 120) rfl w8.heap.size #[.int .i64 atc, .int .i64 coc] rfl rfl 40 _ HNG.out (by kernel_rfl) rfl (by simp [Value.oneCell']) ?_))
          have hb89 : Below w8.heap.size w8 (((w8.alloc (.cells #[.int .i64 0, .int .i64 0] 40)).setRow w8.heap.size #[.int .i64 atc, .int .i64 coc])) := below_setRow ((Below.refl _ _).alloc (Nat.le_refl _) _) (Nat.le_refl _)
          have hb79 := HB8.out.trans (hb89.mono HB8.out.size)
          have HB9 := Lib.hid (bt HB7.out (Nat.le_refl _) hb79)
          have HLF9 := Lib.hid (Blk.below HLF.out hb79 (Blk.lt HLF.out))
          obtain ⟨e0, e1⟩ := duo_of HLF9.out
          obtain ⟨Ry, hRy⟩ : ∃ q, readW L n t = q := ⟨_, rfl⟩
          rw [hRy] at HNO HYE HOY
          cases Ry with
          | none =>
            have hcz := (HNO.out rfl).1
            have hcy : (cob == (0 : Int)) = false := by simpa using hcz
            clear hcz
            generalize (((w8.alloc (.cells #[.int .i64 0, .int .i64 0] 40)).setRow w8.heap.size #[.int .i64 atc, .int .i64 coc])) = X9 at HB9 e0 e1 ⊢
            go_wp2
            go_ret
            exact ⟨by simp, HB9.out⟩
          | some y =>
            obtain ⟨rfl, rfl, rfl, rfl, _⟩ := HYE.out y rfl
            by_cases hbig : 262144 < sl + tl
            · have hbz : (262144 : Int) < (sl : Int) + (tl : Int) := by omega
              clear hbig
              generalize (((w8.alloc (.cells #[.int .i64 0, .int .i64 0] 40)).setRow w8.heap.size #[.int .i64 atc, .int .i64 coc])) = X9 at HB9 e0 e1 ⊢
              go_wp2
              go_ret
              exact ⟨by simp, HB9.out⟩
            · have hbz : ¬ (262144 : Int) < (sl : Int) + (tl : Int) := by omega
              obtain ⟨rfl, rfl, us6, how6⟩ := HYA.out [x, y] (all_two HRX.out hRy (by rw [HSL.out, HTL.out]; omega)) (by simp)
              obtain ⟨hk6, hel⟩ := how6.at_
              obtain ⟨bb, off, B1, m1, j1, B2, m2, j2, B3, m3, j3, rfl, hbb, ho1, g0, g1, g2, g3, g4⟩ := hel 0 x rfl
              obtain ⟨bb', off', C1, o1, i1, C2, o2, i2, C3, o3, i3, he6, _, ho2, q0, q1, q2, q3, q4⟩ := hel 1 y rfl
              injection he6 with he6
              injection he6 with he7 he8
              subst he7 he8
              simp only [List.length_cons, List.length_nil, Nat.zero_add, Nat.reduceAdd] at hk6
              subst hk6
              simp only [Nat.zero_mul, Nat.add_zero, Nat.one_mul] at g0 g1 g2 g3 g4 q0 q1 q2 q3 q4
              have HG8 : Hid (Blk (((w8.alloc (.cells #[.int .i64 0, .int .i64 0] 40)).setRow w8.heap.size #[.int .i64 0, .int .i64 0])) w8.heap.size 40 #[.int .i64 0, .int .i64 0]) := Lib.hid (setRow_heap _ _ _ _ _ _ HNG.out)
              have HKA8 := Lib.hid (Blk.below HKA7.out hb79 (Blk.lt HKA7.out))
              have HLA8 := Lib.hid (Blk.below HLA.out hb79 (Blk.lt HLA.out))
              have HX8 := Lib.hid (HW7.out.below hb79)
              have HY8 := Lib.hid ((HOY.out y rfl).below hb79)
              have HX9 := Lib.hid (ho1.in_.below hb89)
              have HY9 := Lib.hid (ho2.in_.below hb89)
              have HEL := Lib.hid (And.intro ((hb89.cell (p := ⟨bb, off, none⟩) hbb).trans g0) (And.intro ((hb89.cell (p := ⟨bb, off + 1, none⟩) hbb).trans g1) (And.intro ((hb89.cell (p := ⟨bb, off + 2, none⟩) hbb).trans g2) (And.intro ((hb89.cell (p := ⟨bb, off + 3, none⟩) hbb).trans g3) ((hb89.cell (p := ⟨bb, off + 4, none⟩) hbb).trans g4)))))
              have HEM := Lib.hid (And.intro ((hb89.cell (p := ⟨bb, off + 5, none⟩) hbb).trans q0) (And.intro ((hb89.cell (p := ⟨bb, off + 5 + 1, none⟩) hbb).trans q1) (And.intro ((hb89.cell (p := ⟨bb, off + 5 + 2, none⟩) hbb).trans q2) (And.intro ((hb89.cell (p := ⟨bb, off + 5 + 3, none⟩) hbb).trans q3) ((hb89.cell (p := ⟨bb, off + 5 + 4, none⟩) hbb).trans q4)))))
              have HBB : Hid (bb < ((((w8.alloc (.cells #[.int .i64 0, .int .i64 0] 40)).setRow w8.heap.size #[.int .i64 0, .int .i64 0]))).heap.size) := Lib.hid (Nat.lt_of_lt_of_le hbb hb89.size)
              clear hbig how6 hel ho1 ho2 hbb g0 g1 g2 g3 g4 q0 q1 q2 q3 q4 hb89 hb79 HNG HYA HB8 HLF HLF9 HKA7 HLA HW7 HOY HNO HYE
              generalize (((w8.alloc (.cells #[.int .i64 0, .int .i64 0] 40)).setRow w8.heap.size #[.int .i64 0, .int .i64 0])) = X9 at HB9 HG8 HKA8 HLA8 HX8 HY8 HX9 HY9 HEL HEM HBB e0 e1 ⊢
              go_upto_region 18 with (fail)
              clear e0 e1 d0 d1
              refine wp_region_quiet (C := fun wz => Below X9.heap.size X9 wz) (by kernel_rfl) (by kernel_rfl) (Below.refl X9.heap.size X9).drew ?_
              simp only
              repeat
                first
                  | go_big_quiet_skip
                  | (refine wpQuiet_step (fun K hK => ?_)
                     rw [if_pos (by rfl)]
                     unfold Oper.quiet
                     apply Exists.intro
                     refine And.intro (fun wx hWx => ?_) (hK _ ?_)
                     · obtain ⟨a0, a1, a2, a3, a4⟩ := five_of (Blk.below HKA8.out hWx (Blk.lt HKA8.out))
                       obtain ⟨b0, b1, b2, b3, b4⟩ := five_of (Blk.below HLA8.out hWx (Blk.lt HLA8.out))
                       obtain ⟨f0, f1⟩ := duo_of (Blk.below HG8.out hWx (Blk.lt HG8.out))
                       have l0 := (hWx.cell (p := ⟨bb, off, none⟩) HBB.out).trans HEL.out.1
                       have l1 := (hWx.cell (p := ⟨bb, off + 1, none⟩) HBB.out).trans HEL.out.2.1
                       have l2 := (hWx.cell (p := ⟨bb, off + 2, none⟩) HBB.out).trans HEL.out.2.2.1
                       have l3 := (hWx.cell (p := ⟨bb, off + 3, none⟩) HBB.out).trans HEL.out.2.2.2.1
                       have l4 := (hWx.cell (p := ⟨bb, off + 4, none⟩) HBB.out).trans HEL.out.2.2.2.2
                       have m0 := (hWx.cell (p := ⟨bb, off + 5, none⟩) HBB.out).trans HEM.out.1
                       have m1 := (hWx.cell (p := ⟨bb, off + 5 + 1, none⟩) HBB.out).trans HEM.out.2.1
                       have m2 := (hWx.cell (p := ⟨bb, off + 5 + 2, none⟩) HBB.out).trans HEM.out.2.2.1
                       have m3 := (hWx.cell (p := ⟨bb, off + 5 + 3, none⟩) HBB.out).trans HEM.out.2.2.2.1
                       have m4 := (hWx.cell (p := ⟨bb, off + 5 + 4, none⟩) HBB.out).trans HEM.out.2.2.2.2
                       go_simp
                       exact rfl
                     clear hK K
                     try simp only [Act.put, List.setIfInBounds_toArray, List.set_cons_zero, List.set_cons_succ])
              refine wpQuiet_step (fun K hK => ?_)
              rw [if_pos (by rfl)]
              unfold Oper.quiet
              apply Exists.intro
              refine And.intro (fun wx hWx => ?_) (hK _ ?_)
              · go_simp
                go_at_call 11
                refine (sameW_any wx _ _ _ _ _ _ _ (HX9.out.below hWx) (HX8.out.below hWx)).mono ?_
                rintro e w' ⟨rfl, hb⟩
                exact ⟨rfl, bt hWx (Nat.le_refl _) hb⟩
              clear hK K
              try simp only [Act.put, List.setIfInBounds_toArray, List.set_cons_zero, List.set_cons_succ]
              repeat
                first
                  | go_big_quiet_skip
                  | (refine wpQuiet_step (fun K hK => ?_)
                     rw [if_pos (by rfl)]
                     unfold Oper.quiet
                     apply Exists.intro
                     refine And.intro (fun wx hWx => ?_) (hK _ ?_)
                     · obtain ⟨a0, a1, a2, a3, a4⟩ := five_of (Blk.below HKA8.out hWx (Blk.lt HKA8.out))
                       obtain ⟨b0, b1, b2, b3, b4⟩ := five_of (Blk.below HLA8.out hWx (Blk.lt HLA8.out))
                       obtain ⟨f0, f1⟩ := duo_of (Blk.below HG8.out hWx (Blk.lt HG8.out))
                       have l0 := (hWx.cell (p := ⟨bb, off, none⟩) HBB.out).trans HEL.out.1
                       have l1 := (hWx.cell (p := ⟨bb, off + 1, none⟩) HBB.out).trans HEL.out.2.1
                       have l2 := (hWx.cell (p := ⟨bb, off + 2, none⟩) HBB.out).trans HEL.out.2.2.1
                       have l3 := (hWx.cell (p := ⟨bb, off + 3, none⟩) HBB.out).trans HEL.out.2.2.2.1
                       have l4 := (hWx.cell (p := ⟨bb, off + 4, none⟩) HBB.out).trans HEL.out.2.2.2.2
                       have m0 := (hWx.cell (p := ⟨bb, off + 5, none⟩) HBB.out).trans HEM.out.1
                       have m1 := (hWx.cell (p := ⟨bb, off + 5 + 1, none⟩) HBB.out).trans HEM.out.2.1
                       have m2 := (hWx.cell (p := ⟨bb, off + 5 + 2, none⟩) HBB.out).trans HEM.out.2.2.1
                       have m3 := (hWx.cell (p := ⟨bb, off + 5 + 3, none⟩) HBB.out).trans HEM.out.2.2.2.1
                       have m4 := (hWx.cell (p := ⟨bb, off + 5 + 4, none⟩) HBB.out).trans HEM.out.2.2.2.2
                       go_simp
                       exact rfl
                     clear hK K
                     try simp only [Act.put, List.setIfInBounds_toArray, List.set_cons_zero, List.set_cons_succ])
              refine wpQuiet_step (fun K hK => ?_)
              rw [if_pos (by rfl)]
              unfold Oper.quiet
              apply Exists.intro
              refine And.intro (fun wx hWx => ?_) (hK _ ?_)
              · go_simp
                go_at_call 11
                refine (sameW_any wx _ _ _ _ _ _ _ (HY9.out.below hWx) (HY8.out.below hWx)).mono ?_
                rintro e w' ⟨rfl, hb⟩
                exact ⟨rfl, bt hWx (Nat.le_refl _) hb⟩
              clear hK K
              try simp only [Act.put, List.setIfInBounds_toArray, List.set_cons_zero, List.set_cons_succ]
              repeat
                first
                  | go_big_quiet_skip
                  | (refine wpQuiet_step (fun K hK => ?_)
                     rw [if_pos (by rfl)]
                     unfold Oper.quiet
                     apply Exists.intro
                     refine And.intro (fun wx hWx => ?_) (hK _ ?_)
                     · obtain ⟨a0, a1, a2, a3, a4⟩ := five_of (Blk.below HKA8.out hWx (Blk.lt HKA8.out))
                       obtain ⟨b0, b1, b2, b3, b4⟩ := five_of (Blk.below HLA8.out hWx (Blk.lt HLA8.out))
                       obtain ⟨f0, f1⟩ := duo_of (Blk.below HG8.out hWx (Blk.lt HG8.out))
                       have l0 := (hWx.cell (p := ⟨bb, off, none⟩) HBB.out).trans HEL.out.1
                       have l1 := (hWx.cell (p := ⟨bb, off + 1, none⟩) HBB.out).trans HEL.out.2.1
                       have l2 := (hWx.cell (p := ⟨bb, off + 2, none⟩) HBB.out).trans HEL.out.2.2.1
                       have l3 := (hWx.cell (p := ⟨bb, off + 3, none⟩) HBB.out).trans HEL.out.2.2.2.1
                       have l4 := (hWx.cell (p := ⟨bb, off + 4, none⟩) HBB.out).trans HEL.out.2.2.2.2
                       have m0 := (hWx.cell (p := ⟨bb, off + 5, none⟩) HBB.out).trans HEM.out.1
                       have m1 := (hWx.cell (p := ⟨bb, off + 5 + 1, none⟩) HBB.out).trans HEM.out.2.1
                       have m2 := (hWx.cell (p := ⟨bb, off + 5 + 2, none⟩) HBB.out).trans HEM.out.2.2.1
                       have m3 := (hWx.cell (p := ⟨bb, off + 5 + 3, none⟩) HBB.out).trans HEM.out.2.2.2.1
                       have m4 := (hWx.cell (p := ⟨bb, off + 5 + 4, none⟩) HBB.out).trans HEM.out.2.2.2.2
                       go_simp
                       exact rfl
                     clear hK K
                     try simp only [Act.put, List.setIfInBounds_toArray, List.set_cons_zero, List.set_cons_succ])
              refine wpQuiet_nil ?_
              intro wz hwz
              have HBZ := Lib.hid (bt HB9.out (Nat.le_refl _) hwz)
              clear hwz
              go_wp2
              go_ret
              exact ⟨by simp, HBZ.out⟩
        | false =>
          have hxf := hxe rfl
          have hxn : (U.toList != (strB s).toList) = false := by simpa using hxf
          clear hxe
          go_upto_region 14 with (go_at_call 9; refine (HCX.out wr HW4.out).mono ?_; rintro e w5 ⟨rfl, hb5⟩; have HB5 := Lib.hid (bt HB4.out (Nat.le_refl _) hb5); have HZ5 := Lib.hid (Blk.below HZ4.out hb5 (Blk.lt HZ4.out)); have HKA5 := Lib.hid (Blk.below HKA4.out hb5 (Blk.lt HKA4.out)); have HW5 := Lib.hid (HW4.out.below hb5); clear hb5)
          clear hxf hxn
          clear c0 c1 c2 c3 c4 d0 d1 HB4 HZ4 HKA4 HW4 HCX
          obtain ⟨d0, d1⟩ := duo_of HZ5.out
          go_upto_region 15 with (first
            | (go_at_call 13; refine (HRT.out w5 HB5.out).mono ?_; intro e w6 hp6; obtain ⟨stb, lpb, atb, cob, A1b, n1b, k1b, A2b, n2b, k2b, A3b, n3b, k3b, hb6, rfl, hno6, hyes6⟩ := hp6.vals; clear hp6; have HNO := Lib.hid hno6; have HYE := Lib.hid hyes6; have HB6 := Lib.hid (bt HB5.out (Nat.le_refl _) hb6); have HZ6 := Lib.hid (Blk.below HZ5.out hb6 (Blk.lt HZ5.out)); have HKA6 := Lib.hid (Blk.below HKA5.out hb6 (Blk.lt HKA5.out)); have HW6 := Lib.hid (HW5.out.below hb6); have HNA := Lib.hid ((Blk.new w6 28 #[.int .i64 0, .slice none 0 0, .slice none 0 0, .slice none 0 0, .int .i64 0]).alloc (.cells #[.int .i64 0, .int .i64 0] 40)); have HNF : Hid (Blk ((w6.alloc (.cells #[.int .i64 0, .slice none 0 0, .slice none 0 0, .slice none 0 0, .int .i64 0] 28)).alloc (.cells #[.int .i64 0, .int .i64 0] 40)) (w6.heap.size + 1) 40 #[.int .i64 0, .int .i64 0]) := Lib.hid (Blk.new_ _ _ _ _ (by simp)); clear hb6 hno6 hyes6)
            | (refine wpList_store_row rfl 28 (.tmp 13) (.tmp 108) rfl w6.heap.size #[.int .i64 stb, .slice A1b n1b k1b, .slice A2b n2b k2b, .slice A3b n3b k3b, .int .i64 lpb] rfl rfl 28 _ HNA.out (by kernel_rfl) rfl (by simp [Value.oneCell']) ?_)
            | (refine wpList_store_row rfl 40 (.tmp 14) (.tmp 109) rfl (w6.heap.size + 1) #[.int .i64 atb, .int .i64 cob] rfl rfl 40 _ (far_row HNF.out (by omega)) (by kernel_rfl) rfl (by simp [Value.oneCell']) ?_))
          obtain ⟨hrb, hra, hrf⟩ := rboxes w6 #[.int .i64 stb, .slice A1b n1b k1b, .slice A2b n2b k2b, .slice A3b n3b k3b, .int .i64 lpb] #[.int .i64 atb, .int .i64 cob]
          have HB7 := Lib.hid (bt HB6.out (Nat.le_refl _) hrb)
          have HZ7 := Lib.hid (Blk.below HZ6.out hrb (Blk.lt HZ6.out))
          have HKA7 := Lib.hid (Blk.below HKA6.out hrb (Blk.lt HKA6.out))
          have HW7 := Lib.hid (HW6.out.below hrb)
          have HLA := Lib.hid hra
          have HLF := Lib.hid hrf
          have HOY : Hid (∀ y, readW L n t = some y → WtIn ((((w6.alloc (.cells #[.int .i64 0, .slice none 0 0, .slice none 0 0, .slice none 0 0, .int .i64 0] 28)).alloc (.cells #[.int .i64 0, .int .i64 0] 40)).setRow w6.heap.size #[.int .i64 stb, .slice A1b n1b k1b, .slice A2b n2b k2b, .slice A3b n3b k3b, .int .i64 lpb]).setRow (w6.heap.size + 1) #[.int .i64 atb, .int .i64 cob]) y (.slice A1b n1b k1b) (.slice A2b n2b k2b) (.slice A3b n3b k3b)) := Lib.hid (fun y hy => ((HYE.out y hy).2.2.2.2.in_).below hrb)
          clear hrb hra hrf HNA HNF HB6 HZ6 HKA6 HW6 HB5 HZ5 HKA5 HW5 d0 d1
          generalize ((((w6.alloc (.cells #[.int .i64 0, .slice none 0 0, .slice none 0 0, .slice none 0 0, .int .i64 0] 28)).alloc (.cells #[.int .i64 0, .int .i64 0] 40)).setRow w6.heap.size #[.int .i64 stb, .slice A1b n1b k1b, .slice A2b n2b k2b, .slice A3b n3b k3b, .int .i64 lpb]).setRow (w6.heap.size + 1) #[.int .i64 atb, .int .i64 cob]) = X7 at HB7 HZ7 HKA7 HW7 HLA HLF HOY ⊢
          generalize w6.heap.size = g7 at HLA HLF ⊢
          obtain ⟨d0, d1⟩ := duo_of HZ7.out
          obtain ⟨tl, htl⟩ : ∃ k, t.length = k := ⟨_, rfl⟩
          rw [htl] at htz
          have htb : tl ≤ 140737488355328 := by rw [← htl]; exact ht
          have HTL := Lib.hid htl
          have hcat := cat_strB s t
          rw [← hcat] at HAL
          have hnl : ¬ 9223372036854775807 < sl + tl := by omega
          have hwr : IntKind.i64.wrap ((sl : Int) + (tl : Int)) = (sl : Int) + (tl : Int) := by rw [IntKind.wrap_i64]; omega
          clear htl hcat
          go_upto_region 16 with (first
            | (go_at_call 14; refine (HAL.out X7 HB7.out).mono ?_; rintro e w8 ⟨hb8, atc, coc, A6, k6, c6, rfl, hyes8⟩; have HYA := Lib.hid hyes8; have HB8 := Lib.hid hb8; have HNG := Lib.hid (Blk.new w8 40 #[.int .i64 0, .int .i64 0]); clear hb8 hyes8)
            | (refine wpList_store_row rfl 40 (.tmp 16) (.tmp 120) rfl w8.heap.size #[.int .i64 atc, .int .i64 coc] rfl rfl 40 _ HNG.out (by kernel_rfl) rfl (by simp [Value.oneCell']) ?_))
          have hb89 : Below w8.heap.size w8 (((w8.alloc (.cells #[.int .i64 0, .int .i64 0] 40)).setRow w8.heap.size #[.int .i64 atc, .int .i64 coc])) := below_setRow ((Below.refl _ _).alloc (Nat.le_refl _) _) (Nat.le_refl _)
          have hb79 := HB8.out.trans (hb89.mono HB8.out.size)
          have HB9 := Lib.hid (bt HB7.out (Nat.le_refl _) hb79)
          have HLF9 := Lib.hid (Blk.below HLF.out hb79 (Blk.lt HLF.out))
          obtain ⟨e0, e1⟩ := duo_of HLF9.out
          obtain ⟨Ry, hRy⟩ : ∃ q, readW L n t = q := ⟨_, rfl⟩
          rw [hRy] at HNO HYE HOY
          cases Ry with
          | none =>
            have hcz := (HNO.out rfl).1
            have hcy : (cob == (0 : Int)) = false := by simpa using hcz
            clear hcz
            generalize (((w8.alloc (.cells #[.int .i64 0, .int .i64 0] 40)).setRow w8.heap.size #[.int .i64 atc, .int .i64 coc])) = X9 at HB9 e0 e1 ⊢
            go_wp2
            go_ret
            exact ⟨by simp, HB9.out⟩
          | some y =>
            obtain ⟨rfl, rfl, rfl, rfl, _⟩ := HYE.out y rfl
            by_cases hbig : 262144 < sl + tl
            · have hbz : (262144 : Int) < (sl : Int) + (tl : Int) := by omega
              clear hbig
              generalize (((w8.alloc (.cells #[.int .i64 0, .int .i64 0] 40)).setRow w8.heap.size #[.int .i64 atc, .int .i64 coc])) = X9 at HB9 e0 e1 ⊢
              go_wp2
              go_ret
              exact ⟨by simp, HB9.out⟩
            · have hbz : ¬ (262144 : Int) < (sl : Int) + (tl : Int) := by omega
              obtain ⟨rfl, rfl, us6, how6⟩ := HYA.out [x, y] (all_two HRX.out hRy (by rw [HSL.out, HTL.out]; omega)) (by simp)
              obtain ⟨hk6, hel⟩ := how6.at_
              obtain ⟨bb, off, B1, m1, j1, B2, m2, j2, B3, m3, j3, rfl, hbb, ho1, g0, g1, g2, g3, g4⟩ := hel 0 x rfl
              obtain ⟨bb', off', C1, o1, i1, C2, o2, i2, C3, o3, i3, he6, _, ho2, q0, q1, q2, q3, q4⟩ := hel 1 y rfl
              injection he6 with he6
              injection he6 with he7 he8
              subst he7 he8
              simp only [List.length_cons, List.length_nil, Nat.zero_add, Nat.reduceAdd] at hk6
              subst hk6
              simp only [Nat.zero_mul, Nat.add_zero, Nat.one_mul] at g0 g1 g2 g3 g4 q0 q1 q2 q3 q4
              have HG8 : Hid (Blk (((w8.alloc (.cells #[.int .i64 0, .int .i64 0] 40)).setRow w8.heap.size #[.int .i64 0, .int .i64 0])) w8.heap.size 40 #[.int .i64 0, .int .i64 0]) := Lib.hid (setRow_heap _ _ _ _ _ _ HNG.out)
              have HKA8 := Lib.hid (Blk.below HKA7.out hb79 (Blk.lt HKA7.out))
              have HLA8 := Lib.hid (Blk.below HLA.out hb79 (Blk.lt HLA.out))
              have HX8 := Lib.hid (HW7.out.below hb79)
              have HY8 := Lib.hid ((HOY.out y rfl).below hb79)
              have HX9 := Lib.hid (ho1.in_.below hb89)
              have HY9 := Lib.hid (ho2.in_.below hb89)
              have HEL := Lib.hid (And.intro ((hb89.cell (p := ⟨bb, off, none⟩) hbb).trans g0) (And.intro ((hb89.cell (p := ⟨bb, off + 1, none⟩) hbb).trans g1) (And.intro ((hb89.cell (p := ⟨bb, off + 2, none⟩) hbb).trans g2) (And.intro ((hb89.cell (p := ⟨bb, off + 3, none⟩) hbb).trans g3) ((hb89.cell (p := ⟨bb, off + 4, none⟩) hbb).trans g4)))))
              have HEM := Lib.hid (And.intro ((hb89.cell (p := ⟨bb, off + 5, none⟩) hbb).trans q0) (And.intro ((hb89.cell (p := ⟨bb, off + 5 + 1, none⟩) hbb).trans q1) (And.intro ((hb89.cell (p := ⟨bb, off + 5 + 2, none⟩) hbb).trans q2) (And.intro ((hb89.cell (p := ⟨bb, off + 5 + 3, none⟩) hbb).trans q3) ((hb89.cell (p := ⟨bb, off + 5 + 4, none⟩) hbb).trans q4)))))
              have HBB : Hid (bb < ((((w8.alloc (.cells #[.int .i64 0, .int .i64 0] 40)).setRow w8.heap.size #[.int .i64 0, .int .i64 0]))).heap.size) := Lib.hid (Nat.lt_of_lt_of_le hbb hb89.size)
              clear hbig how6 hel ho1 ho2 hbb g0 g1 g2 g3 g4 q0 q1 q2 q3 q4 hb89 hb79 HNG HYA HB8 HLF HLF9 HKA7 HLA HW7 HOY HNO HYE
              generalize (((w8.alloc (.cells #[.int .i64 0, .int .i64 0] 40)).setRow w8.heap.size #[.int .i64 0, .int .i64 0])) = X9 at HB9 HG8 HKA8 HLA8 HX8 HY8 HX9 HY9 HEL HEM HBB e0 e1 ⊢
              go_upto_region 18 with (fail)
              clear e0 e1 d0 d1
              refine wp_region_quiet (C := fun wz => Below X9.heap.size X9 wz) (by kernel_rfl) (by kernel_rfl) (Below.refl X9.heap.size X9).drew ?_
              simp only
              repeat
                first
                  | go_big_quiet_skip
                  | (refine wpQuiet_step (fun K hK => ?_)
                     rw [if_pos (by rfl)]
                     unfold Oper.quiet
                     apply Exists.intro
                     refine And.intro (fun wx hWx => ?_) (hK _ ?_)
                     · obtain ⟨a0, a1, a2, a3, a4⟩ := five_of (Blk.below HKA8.out hWx (Blk.lt HKA8.out))
                       obtain ⟨b0, b1, b2, b3, b4⟩ := five_of (Blk.below HLA8.out hWx (Blk.lt HLA8.out))
                       obtain ⟨f0, f1⟩ := duo_of (Blk.below HG8.out hWx (Blk.lt HG8.out))
                       have l0 := (hWx.cell (p := ⟨bb, off, none⟩) HBB.out).trans HEL.out.1
                       have l1 := (hWx.cell (p := ⟨bb, off + 1, none⟩) HBB.out).trans HEL.out.2.1
                       have l2 := (hWx.cell (p := ⟨bb, off + 2, none⟩) HBB.out).trans HEL.out.2.2.1
                       have l3 := (hWx.cell (p := ⟨bb, off + 3, none⟩) HBB.out).trans HEL.out.2.2.2.1
                       have l4 := (hWx.cell (p := ⟨bb, off + 4, none⟩) HBB.out).trans HEL.out.2.2.2.2
                       have m0 := (hWx.cell (p := ⟨bb, off + 5, none⟩) HBB.out).trans HEM.out.1
                       have m1 := (hWx.cell (p := ⟨bb, off + 5 + 1, none⟩) HBB.out).trans HEM.out.2.1
                       have m2 := (hWx.cell (p := ⟨bb, off + 5 + 2, none⟩) HBB.out).trans HEM.out.2.2.1
                       have m3 := (hWx.cell (p := ⟨bb, off + 5 + 3, none⟩) HBB.out).trans HEM.out.2.2.2.1
                       have m4 := (hWx.cell (p := ⟨bb, off + 5 + 4, none⟩) HBB.out).trans HEM.out.2.2.2.2
                       go_simp
                       exact rfl
                     clear hK K
                     try simp only [Act.put, List.setIfInBounds_toArray, List.set_cons_zero, List.set_cons_succ])
              refine wpQuiet_step (fun K hK => ?_)
              rw [if_pos (by rfl)]
              unfold Oper.quiet
              apply Exists.intro
              refine And.intro (fun wx hWx => ?_) (hK _ ?_)
              · go_simp
                go_at_call 11
                refine (sameW_any wx _ _ _ _ _ _ _ (HX9.out.below hWx) (HX8.out.below hWx)).mono ?_
                rintro e w' ⟨rfl, hb⟩
                exact ⟨rfl, bt hWx (Nat.le_refl _) hb⟩
              clear hK K
              try simp only [Act.put, List.setIfInBounds_toArray, List.set_cons_zero, List.set_cons_succ]
              repeat
                first
                  | go_big_quiet_skip
                  | (refine wpQuiet_step (fun K hK => ?_)
                     rw [if_pos (by rfl)]
                     unfold Oper.quiet
                     apply Exists.intro
                     refine And.intro (fun wx hWx => ?_) (hK _ ?_)
                     · obtain ⟨a0, a1, a2, a3, a4⟩ := five_of (Blk.below HKA8.out hWx (Blk.lt HKA8.out))
                       obtain ⟨b0, b1, b2, b3, b4⟩ := five_of (Blk.below HLA8.out hWx (Blk.lt HLA8.out))
                       obtain ⟨f0, f1⟩ := duo_of (Blk.below HG8.out hWx (Blk.lt HG8.out))
                       have l0 := (hWx.cell (p := ⟨bb, off, none⟩) HBB.out).trans HEL.out.1
                       have l1 := (hWx.cell (p := ⟨bb, off + 1, none⟩) HBB.out).trans HEL.out.2.1
                       have l2 := (hWx.cell (p := ⟨bb, off + 2, none⟩) HBB.out).trans HEL.out.2.2.1
                       have l3 := (hWx.cell (p := ⟨bb, off + 3, none⟩) HBB.out).trans HEL.out.2.2.2.1
                       have l4 := (hWx.cell (p := ⟨bb, off + 4, none⟩) HBB.out).trans HEL.out.2.2.2.2
                       have m0 := (hWx.cell (p := ⟨bb, off + 5, none⟩) HBB.out).trans HEM.out.1
                       have m1 := (hWx.cell (p := ⟨bb, off + 5 + 1, none⟩) HBB.out).trans HEM.out.2.1
                       have m2 := (hWx.cell (p := ⟨bb, off + 5 + 2, none⟩) HBB.out).trans HEM.out.2.2.1
                       have m3 := (hWx.cell (p := ⟨bb, off + 5 + 3, none⟩) HBB.out).trans HEM.out.2.2.2.1
                       have m4 := (hWx.cell (p := ⟨bb, off + 5 + 4, none⟩) HBB.out).trans HEM.out.2.2.2.2
                       go_simp
                       exact rfl
                     clear hK K
                     try simp only [Act.put, List.setIfInBounds_toArray, List.set_cons_zero, List.set_cons_succ])
              refine wpQuiet_step (fun K hK => ?_)
              rw [if_pos (by rfl)]
              unfold Oper.quiet
              apply Exists.intro
              refine And.intro (fun wx hWx => ?_) (hK _ ?_)
              · go_simp
                go_at_call 11
                refine (sameW_any wx _ _ _ _ _ _ _ (HY9.out.below hWx) (HY8.out.below hWx)).mono ?_
                rintro e w' ⟨rfl, hb⟩
                exact ⟨rfl, bt hWx (Nat.le_refl _) hb⟩
              clear hK K
              try simp only [Act.put, List.setIfInBounds_toArray, List.set_cons_zero, List.set_cons_succ]
              repeat
                first
                  | go_big_quiet_skip
                  | (refine wpQuiet_step (fun K hK => ?_)
                     rw [if_pos (by rfl)]
                     unfold Oper.quiet
                     apply Exists.intro
                     refine And.intro (fun wx hWx => ?_) (hK _ ?_)
                     · obtain ⟨a0, a1, a2, a3, a4⟩ := five_of (Blk.below HKA8.out hWx (Blk.lt HKA8.out))
                       obtain ⟨b0, b1, b2, b3, b4⟩ := five_of (Blk.below HLA8.out hWx (Blk.lt HLA8.out))
                       obtain ⟨f0, f1⟩ := duo_of (Blk.below HG8.out hWx (Blk.lt HG8.out))
                       have l0 := (hWx.cell (p := ⟨bb, off, none⟩) HBB.out).trans HEL.out.1
                       have l1 := (hWx.cell (p := ⟨bb, off + 1, none⟩) HBB.out).trans HEL.out.2.1
                       have l2 := (hWx.cell (p := ⟨bb, off + 2, none⟩) HBB.out).trans HEL.out.2.2.1
                       have l3 := (hWx.cell (p := ⟨bb, off + 3, none⟩) HBB.out).trans HEL.out.2.2.2.1
                       have l4 := (hWx.cell (p := ⟨bb, off + 4, none⟩) HBB.out).trans HEL.out.2.2.2.2
                       have m0 := (hWx.cell (p := ⟨bb, off + 5, none⟩) HBB.out).trans HEM.out.1
                       have m1 := (hWx.cell (p := ⟨bb, off + 5 + 1, none⟩) HBB.out).trans HEM.out.2.1
                       have m2 := (hWx.cell (p := ⟨bb, off + 5 + 2, none⟩) HBB.out).trans HEM.out.2.2.1
                       have m3 := (hWx.cell (p := ⟨bb, off + 5 + 3, none⟩) HBB.out).trans HEM.out.2.2.2.1
                       have m4 := (hWx.cell (p := ⟨bb, off + 5 + 4, none⟩) HBB.out).trans HEM.out.2.2.2.2
                       go_simp
                       exact rfl
                     clear hK K
                     try simp only [Act.put, List.setIfInBounds_toArray, List.set_cons_zero, List.set_cons_succ])
              refine wpQuiet_nil ?_
              intro wz hwz
              have HBZ := Lib.hid (bt HB9.out (Nat.le_refl _) hwz)
              clear hwz
              go_wp2
              go_ret
              exact ⟨by simp, HBZ.out⟩
end Go.Proofs.YtjbglgmbnjdhcaaDoor

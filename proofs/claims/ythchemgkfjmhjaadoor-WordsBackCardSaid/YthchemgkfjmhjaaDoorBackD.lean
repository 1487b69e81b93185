/- WordsBack's walk: a number that is put is got, wherever it stands; its digits are read; a greater number has no fewer bytes. -/
import Derived.Test.YthchemgkfjmhjaaDoorNumbersD
namespace Go.Proofs.YthchemgkfjmhjaaDoor
open Go.RowKit

theorem byteOf_dig {d : Nat} (h : d < 10) : isDig (byteOf (48 + d)) = true := isDig_iff.2 (by rw [byteOf_toNat (by omega)]; omega)
theorem decs_all : ∀ n, ∀ b ∈ decs n, isDig b = true := by
  intro n
  induction n using Nat.strongRecOn with
  | _ n ih =>
    by_cases h : n < 10
    · rw [decs_one h]; intro b hb; rw [List.mem_singleton.1 hb]; exact byteOf_dig h
    · rw [decs_more h]
      intro b hb
      rcases List.mem_append.1 hb with h1 | h1
      · exact ih (n / 10) (by omega) b h1
      · rw [List.mem_singleton.1 h1]; exact byteOf_dig (by omega)
theorem dval_decs : ∀ n, dval (decs n) = n := by
  intro n
  induction n using Nat.strongRecOn with
  | _ n ih =>
    by_cases h : n < 10
    · rw [decs_one h]
      have := dval_snoc [] (byteOf (48 + n))
      rw [byteOf_toNat (by omega)] at this
      simpa [dval] using this
    · rw [decs_more h, dval_snoc, ih (n / 10) (by omega), byteOf_toNat (by omega)]; omega
theorem decs_head : ∀ n, 0 < n → ∃ b r, decs n = b :: r ∧ b.toNat ≠ 48 := by
  intro n
  induction n using Nat.strongRecOn with
  | _ n ih =>
    intro hn
    by_cases h : n < 10
    · exact ⟨_, [], decs_one h, by rw [byteOf_toNat (by omega)]; omega⟩
    · obtain ⟨b, r, h1, h2⟩ := ih (n / 10) (by omega) (by omega)
      exact ⟨b, r ++ [byteOf (48 + n % 10)], by rw [decs_more h, h1]; rfl, h2⟩
theorem numO_decs (n : Nat) (hn : n ≤ 2147483647) : numO (decs n ++ [120]) = some (n, (decs n).length) := by
  have hd : digs (decs n ++ [120]) = decs n := by
    unfold digs
    rw [List.takeWhile_append_of_pos (decs_all n)]
    have : List.takeWhile isDig [120] = [] := by decide
    rw [this, List.append_nil]
  unfold numO
  rw [hd, dval_decs]
  by_cases h0 : n = 0
  · subst h0
    rw [decs_one (by omega)]; decide
  · obtain ⟨b, r, h1, h2⟩ := decs_head n (by omega)
    rw [if_neg (by rw [h1]; simp), if_neg, if_neg (by omega)]
    rintro ⟨h3, _⟩
    rw [h1] at h3
    have h4 := Option.some.inj h3
    exact h2 (by rw [h4]; rfl)

theorem strOf_of (s : ByteArray) : strOf s.data.toList = s := by
  apply ByteArray.ext; simp [strOf]
theorem from_cat (s : ByteArray) (l : List UInt8) : from_ (s ++ strOf l) s.size = l := by
  have h := strOf_append s.data.toList l
  rw [strOf_of] at h
  rw [h]
  unfold from_
  show (s.data.toList ++ l).toArray.toList.drop s.size = l
  rw [← data_len s]
  simp

set_option maxHeartbeats 4000000 in
theorem backd_walk (w : World) (n m : Int) (s : ByteArray) (ht : Tab w) (hs : s.size ≤ 9223372036854775807) :
    Calls Tryd.prog 4 #[.int .i64 n, .int .i64 m, .string s] w fun e w' => e = .returned (.bool true) ∧ Below w.heap.size w w' := by
  have HT := Lib.hid ht
  clear ht
  by_cases hl : 1000 < s.size
  · go_enter Tryd.func4, Tryd.ntmps4
    go_wp2_with (go_at_call 14; refine (works_any _).mono ?_; rintro e w1 ⟨rfl, b1⟩)
    go_ret
    exact ⟨rfl, b1⟩
  · by_cases hn : 0 ≤ n ∧ n ≤ 2147483647
    · obtain ⟨k, rfl⟩ := Int.eq_ofNat_of_zero_le hn.1
      have hk : k ≤ 2147483647 := by omega
      have hp := fun wx => Put_ok k wx hk
      have hd := fun wx h => Digits_ok k wx hk h
      have hgl : (groups k).length ≤ 5 := (groups_len k).2 (by omega)
      have hdl : (decs k).length ≤ 10 := decs_len 9 k (by omega)
      have hc1 : s ++ strOf (groups k) ++ s = s ++ strOf (groups k ++ s.data.toList) := by
        have e1 := strOf_append (s.data.toList ++ groups k) s.data.toList
        have e2 := strOf_append s.data.toList (groups k)
        have e3 := strOf_append s.data.toList (groups k ++ s.data.toList)
        rw [strOf_of] at e1 e2 e3
        rw [e2, e3, e1, List.append_assoc]
      have hc2 : s ++ strOf (decs k) ++ strOf [120] = s ++ strOf (decs k ++ [120]) := by
        have e1 := strOf_append (s.data.toList ++ decs k) [120]
        have e2 := strOf_append s.data.toList (decs k)
        have e3 := strOf_append s.data.toList (decs k ++ [120])
        rw [strOf_of] at e2 e3
        rw [e2, e3, e1, List.append_assoc]
      have hpl : (strOf (groups k)).size = (groups k).length := strOf_size _
      have hql : (strOf (decs k)).size = (decs k).length := strOf_size _
      have hz1 : (s ++ strOf (groups k)).size = s.size + (groups k).length := by rw [ByteArray.size_append, hpl]
      have hz2 : (s ++ strOf (groups k) ++ s).size = s.size + (groups k).length + s.size := by rw [ByteArray.size_append, hz1]
      have hz3 : (s ++ strOf (decs k)).size = s.size + (decs k).length := by rw [ByteArray.size_append, hql]
      have hz4 : (s ++ strOf (decs k) ++ strOf [120]).size = s.size + (decs k).length + 1 := by rw [ByteArray.size_append, hz3, strOf_size]; rfl
      have hpE1 : placeE (s ++ strOf (groups k) ++ s) (s.size : Int) = 0 := placeE_ok (by rw [hz2]; omega) (by rw [hz2]; omega)
      have hpE2 : placeE (s ++ strOf (decs k) ++ strOf [120]) (s.size : Int) = 0 := placeE_ok (by rw [hz4]; omega) (by rw [hz4]; omega)
      have hg : ∀ wx, Calls Tryd.prog 10 #[.string (s ++ strOf (groups k) ++ s), .int .i64 s.size] wx fun e w' => e = .returned (.tuple #[.int .i64 k, .int .i64 ((s.size : Int) + ((groups k).length : Int)), fault 0 0]) ∧ Below wx.heap.size wx w' := fun wx => by
        have := Get_any (s ++ strOf (groups k) ++ s) s.size wx (by rw [hz2]; omega)
        rw [Int.toNat_natCast, hc1, from_cat, getO_some hk rfl, ← hc1, readV_some hpE1] at this
        exact this
      have hnm : ∀ wx, Calls Tryd.prog 12 #[.string (s ++ strOf (decs k) ++ strOf [120]), .int .i64 s.size] wx fun e w' => e = .returned (.tuple #[.int .i64 k, .int .i64 ((s.size : Int) + ((decs k).length : Int)), fault 0 0]) ∧ Below wx.heap.size wx w' := fun wx => by
        have := Number_any (s ++ strOf (decs k) ++ strOf [120]) s.size wx (by rw [hz4]; omega)
        rw [Int.toNat_natCast, hc2, from_cat, numO_decs k hk, ← hc2, readV_some hpE2] at this
        exact this
      have h120 : strOf [120] = { data := #[120] } := rfl
      rw [h120] at hnm hz4
      have hm0 : ∃ t r, (∀ wx, Calls Tryd.prog 5 #[.int .i64 m] wx (StrAns t r wx)) ∧ (r ≠ 0 ∨ m < k ∨ (groups k).length ≤ t.size) := by
        by_cases hmm : 0 ≤ m ∧ m ≤ 2147483647
        · obtain ⟨j, rfl⟩ := Int.eq_ofNat_of_zero_le hmm.1
          refine ⟨strOf (groups j), 0, fun wx => Put_ok j wx (by omega), ?_⟩
          by_cases hjk : j < k
          · exact .inr (.inl (by omega))
          · exact .inr (.inr (by rw [strOf_size]; exact groups_mono j k (by omega)))
        · have hb : isNum m = false := by
            cases hi : isNum m
            · rfl
            · exact absurd (isNum_iff.1 hi) hmm
          refine ⟨strOf [], 1, fun wx => (Put_bad m wx hb).mono ?_, .inl (by omega)⟩
          rintro e w' ⟨rfl, rfl⟩
          exact ⟨rfl, Below.refl _ _⟩
      obtain ⟨t, r, hpm, hor⟩ := hm0
      generalize hG : strOf (groups k) = G at hp hg hz1 hz2 hpl
      generalize hD : strOf (decs k) = D at hd hnm hz3 hz4 hql
      generalize (groups k).length = gl at *
      generalize (decs k).length = dl at *
      have hki : (k : Int) ≤ 2147483647 := by omega
      clear hc1 hc2 hpE1 hpE2 hG hD h120
      by_cases hr : r = 0
      · subst hr
        by_cases hmk : m < (k : Int)
        · have q2 : decide (m < (k : Int)) = true := decide_eq_true hmk
          clear hor
          go_enter Tryd.func4, Tryd.ntmps4
          go_wp2_with (first
            | (go_at_call 14; refine (works_any _).mono ?_; rintro e w1 ⟨rfl, b1⟩; have HB1 := Lib.hid b1; clear b1)
            | (go_at_call 5; (with_reducible refine (hp w1).mono ?_); rintro e w2 ⟨rfl, b2⟩; have HB2 := Lib.hid (bt HB1.out (Nat.le_refl _) b2); clear b2)
            | (go_at_call 7; refine (hd w2 (HT.out.on HB2.out)).mono ?_; rintro e w3 ⟨rfl, b3⟩; have HB3 := Lib.hid (bt HB2.out (Nat.le_refl _) b3); clear b3)
            | (go_at_call 10; refine (hg w3).mono ?_; rintro e w4 ⟨rfl, b4⟩; have HB4 := Lib.hid (bt HB3.out (Nat.le_refl _) b4); clear b4)
            | (go_at_call 12; refine (hnm _).mono ?_; rintro e w5 ⟨rfl, b5⟩; have HB5 := Lib.hid (bt HB4.out (Nat.le_refl _) (Below.box b5)); have HI5 := Lib.hid ((BoxF.new w4 0 0).on b5); have HIa := Lib.hid (HI5.out.on ((Below.refl w5.heap.size w5).alloc (Nat.le_refl _) (.cells #[.int .i64 0, .int .i64 0] 27))); have ia0 := Blk.cell HIa.out 0; have ia1 := Blk.cell HIa.out 1; simp at ia0 ia1; clear b5)
            | (go_at_call 5; refine (hpm _).mono ?_; rintro e w6 ⟨rfl, b6⟩; have HB6 := Lib.hid (bt HB5.out (Nat.le_refl _) (Below.box b6)); clear b6))
          go_ret
          exact ⟨rfl, HB6.out⟩
        · have hgt : gl ≤ t.size := hor.elim (fun h => absurd rfl h) (fun h => h.elim (fun h => absurd h hmk) id)
          have q2 : decide (m < (k : Int)) = false := decide_eq_false hmk
          have q3 : decide (gl ≤ t.size) = true := decide_eq_true hgt
          clear hor hmk
          go_enter Tryd.func4, Tryd.ntmps4
          go_wp2_with (first
            | (go_at_call 14; refine (works_any _).mono ?_; rintro e w1 ⟨rfl, b1⟩; have HB1 := Lib.hid b1; clear b1)
            | (go_at_call 5; (with_reducible refine (hp w1).mono ?_); rintro e w2 ⟨rfl, b2⟩; have HB2 := Lib.hid (bt HB1.out (Nat.le_refl _) b2); clear b2)
            | (go_at_call 7; refine (hd w2 (HT.out.on HB2.out)).mono ?_; rintro e w3 ⟨rfl, b3⟩; have HB3 := Lib.hid (bt HB2.out (Nat.le_refl _) b3); clear b3)
            | (go_at_call 10; refine (hg w3).mono ?_; rintro e w4 ⟨rfl, b4⟩; have HB4 := Lib.hid (bt HB3.out (Nat.le_refl _) b4); clear b4)
            | (go_at_call 12; refine (hnm _).mono ?_; rintro e w5 ⟨rfl, b5⟩; have HB5 := Lib.hid (bt HB4.out (Nat.le_refl _) (Below.box b5)); have HI5 := Lib.hid ((BoxF.new w4 0 0).on b5); have HIa := Lib.hid (HI5.out.on ((Below.refl w5.heap.size w5).alloc (Nat.le_refl _) (.cells #[.int .i64 0, .int .i64 0] 27))); have ia0 := Blk.cell HIa.out 0; have ia1 := Blk.cell HIa.out 1; simp at ia0 ia1; clear b5)
            | (go_at_call 5; refine (hpm _).mono ?_; rintro e w6 ⟨rfl, b6⟩; have HB6 := Lib.hid (bt HB5.out (Nat.le_refl _) (Below.box b6)); clear b6))
          go_ret
          exact ⟨rfl, HB6.out⟩
      · have q1 : (r != 0) = true := by simpa using hr
        have q2 : (r == 0) = false := by simpa using hr
        clear hor
        go_enter Tryd.func4, Tryd.ntmps4
        go_wp2_with (first
          | (go_at_call 14; refine (works_any _).mono ?_; rintro e w1 ⟨rfl, b1⟩; have HB1 := Lib.hid b1; clear b1)
          | (go_at_call 5; (with_reducible refine (hp w1).mono ?_); rintro e w2 ⟨rfl, b2⟩; have HB2 := Lib.hid (bt HB1.out (Nat.le_refl _) b2); clear b2)
          | (go_at_call 7; refine (hd w2 (HT.out.on HB2.out)).mono ?_; rintro e w3 ⟨rfl, b3⟩; have HB3 := Lib.hid (bt HB2.out (Nat.le_refl _) b3); clear b3)
          | (go_at_call 10; refine (hg w3).mono ?_; rintro e w4 ⟨rfl, b4⟩; have HB4 := Lib.hid (bt HB3.out (Nat.le_refl _) b4); clear b4)
          | (go_at_call 12; refine (hnm _).mono ?_; rintro e w5 ⟨rfl, b5⟩; have HB5 := Lib.hid (bt HB4.out (Nat.le_refl _) (Below.box b5)); have HI5 := Lib.hid ((BoxF.new w4 0 0).on b5); have HIa := Lib.hid (HI5.out.on ((Below.refl w5.heap.size w5).alloc (Nat.le_refl _) (.cells #[.int .i64 0, .int .i64 0] 27))); have ia0 := Blk.cell HIa.out 0; have ia1 := Blk.cell HIa.out 1; simp at ia0 ia1; clear b5)
          | (go_at_call 5; refine (hpm _).mono ?_; rintro e w6 ⟨rfl, b6⟩; have HB6 := Lib.hid (bt HB5.out (Nat.le_refl _) (Below.box b6)); clear b6))
        go_ret
        exact ⟨rfl, HB6.out⟩
    · have hb : isNum n = false := by
        cases hi : isNum n
        · rfl
        · exact absurd (isNum_iff.1 hi) hn
      have hp := fun wx => Put_bad n wx hb
      have hd := fun wx => Digits_bad n wx hb
      have hem : (strOf []).toList.isEmpty = true := by decide +kernel
      by_cases h0 : n < 0
      · clear hb hn
        go_enter Tryd.func4, Tryd.ntmps4
        go_wp2_with (first
          | (go_at_call 14; refine (works_any _).mono ?_; rintro e w1 ⟨rfl, b1⟩; have HB1 := Lib.hid b1; clear b1)
          | (go_at_call 5; refine (hp _).mono ?_; rintro e w' ⟨rfl, rfl⟩)
          | (go_at_call 7; refine (hd _).mono ?_; rintro e w' ⟨rfl, rfl⟩))
        go_ret
        exact ⟨rfl, HB1.out⟩
      · have h1 : 2147483647 < n := by omega
        have q0 : decide (n < 0) = false := decide_eq_false h0
        have q1 : decide (2147483647 < n) = true := decide_eq_true h1
        clear hb hn h0
        go_enter Tryd.func4, Tryd.ntmps4
        go_wp2_with (first
          | (go_at_call 14; refine (works_any _).mono ?_; rintro e w1 ⟨rfl, b1⟩; have HB1 := Lib.hid b1; clear b1)
          | (go_at_call 5; refine (hp _).mono ?_; rintro e w' ⟨rfl, rfl⟩)
          | (go_at_call 7; refine (hd _).mono ?_; rintro e w' ⟨rfl, rfl⟩))
        go_ret
        exact ⟨rfl, HB1.out⟩
end Go.Proofs.YthchemgkfjmhjaaDoor

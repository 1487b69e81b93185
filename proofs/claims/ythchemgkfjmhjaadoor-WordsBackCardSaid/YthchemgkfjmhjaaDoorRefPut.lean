/- The document's Put and Whole, Digits: what they answer. -/
import Derived.Test.YthchemgkfjmhjaaDoorStr
import Derived.Laws.IdiomStrings
namespace Go.Proofs.YthchemgkfjmhjaaDoor
open Go.RowKit
theorem Put0_bad (n : Int) (w : World) (h : n < 0 ∨ 2147483647 < n) : Calls Tryd.prog 6 #[.int .i64 n] w fun e w' => e = .returned (.tuple #[.string (strOf []), .int .i64 1]) ∧ w = w' := by
  rcases h with h | h
  · go_enter Tryd.func6, Tryd.ntmps6
    go_wp2
    go_ret2
    exact ⟨rfl, rfl⟩
  · have h0 : ¬ n < 0 := by omega
    go_enter Tryd.func6, Tryd.ntmps6
    go_wp2
    go_ret2
    exact ⟨rfl, rfl⟩

set_option maxHeartbeats 1000000 in
set_option maxRecDepth 100000 in
theorem Put0_ok (n : Nat) (w : World) (h : n ≤ 2147483647) : Calls Tryd.prog 6 #[.int .i64 n] w fun e w' => e = .returned (.tuple #[.string (strOf (groups n)), .int .i64 0]) ∧ Below w.heap.size w w' := by
  obtain ⟨i0, hi0, hz0, hz1, hz2⟩ := info_parts u8_info
  have hlen : (groups n).length ≤ 5 := (groups_len n).2 (by omega)
  generalize hg : groups n = gs at hlen ⊢
  have HG := Lib.hid hg
  clear hg
  go_enter Tryd.func6, Tryd.ntmps6
  go_wp2
  go_loopw [0, 4] (fun q v wr => ∃ (k : Nat) (l : List UInt8), q = .int .i64 k ∧ (k : Int) ≤ 2147483647 ∧ Below w.heap.size w wr ∧ wr.ownsRow w.heap.size 5 1 v l.length (u8s l) ∧ l ++ groups k = gs) (fun q _ _ => (intOf q).toNat)
  case atStart => exact ⟨n, [], rfl, by omega, Below.refl _ _, World.ownsRow_nil _ _ _ _, by simpa using HG.out⟩
  case round =>
    obtain ⟨k, l, rfl, hk, hbw, how, hl⟩ := hrel
    have HOW := Lib.hid how
    have HL := Lib.hid hl
    have hll : l.length ≤ 5 := by have := congrArg List.length hl; rw [List.length_append] at this; omega
    clear how hl
    by_cases h1 : k < 128
    · have hb : (byteOf k).toNat = k := byteOf_toNat (by omega)
      have HB := Lib.hid hb
      go_wp2_with (at_builtin; refine wpList_append_any _ rfl (.tmp 22) (.tmp 25) _ rfl w.heap.size 5 i0 _ 1 1 Tryd.underlying35 hi0 hz0 hz1 hz2 rfl (by omega) u4 l.length (u8s l) rfl (HOW.out.alloc _) (wr.heap.size + 1) (some ⟨wr.heap.size, 0, none⟩) 1 1 [.int .u8 (k : Int)] rfl (reads_one _ _ _) (by simp [Value.oneCell']) (by simp only [maxLen]; omega) (by omega) (by have := hbw.size; simp; omega) ?_; intro v2 w2 hown2 hg2 hat2; obtain ⟨g, cap, rfl, hcv⟩ := own_string (own_snoc (b := byteOf k) hown2 (by rw [HB.out])) (by omega); have HL2 := Lib.hid (snoc_last HL.out h1))
      go_ret2
      exact ⟨by rw [HL2.out]; rfl, (hbw.alloc hbw.size _).grown hg2 (by have := hbw.size; simp; omega) (fun k hk => (HOW.out.lt k hk).1)⟩
    · have h2 : ¬ k < 128 := h1
      go_wp2_with (at_builtin; refine wpList_append_any _ rfl (.tmp 13) (.tmp 18) _ rfl w.heap.size 5 i0 _ 1 1 Tryd.underlying35 hi0 hz0 hz1 hz2 rfl (by omega) u4 l.length (u8s l) rfl (HOW.out.alloc _) (wr.heap.size + 1) (some ⟨wr.heap.size, 0, none⟩) 1 1 [.int .u8 ((k : Int) % 128 + 128)] rfl (reads_one _ _ _) (by simp [Value.oneCell']) (by simp only [maxLen]; omega) (by omega) (by have := hbw.size; simp; omega) ?_; intro v2 w2 hown2 hg2 hat2)
      go_roundw
      case rel =>
        have hb : (byteOf (k % 128 + 128)).toNat = k % 128 + 128 := byteOf_toNat (by omega)
        refine ⟨k / 128, l ++ [byteOf (k % 128 + 128)], by go_num, by omega, (hbw.alloc hbw.size _).grown hg2 (by have := hbw.size; simp; omega) (fun k hk => (HOW.out.lt k hk).1), ?_, ?_⟩
        · have := own_snoc (b := byteOf (k % 128 + 128)) (x := (k : Int) % 128 + 128) hown2 (by rw [hb]; omega)
          simpa using this
        · rw [← HL.out, groups_more h1]; simp
      case measure => simp [intOf]; omega

def tenDigits : ByteArray := { data := #[48, 49, 50, 51, 52, 53, 54, 55, 56, 57] }
theorem digit_cut : ∀ d : Fin 10, tenDigits.extract d.val (d.val + 1) = strOf [byteOf (48 + d.val)] := by decide +kernel
theorem slice_digit (k : Nat) (wx : World) : (Instr.slice 9 (.string { data := #[48, 49, 50, 51, 52, 53, 54, 55, 56, 57] }) (some (.int .i64 ((k : Int) % 10))) (some (.int .i64 ((k : Int) % 10 + 1))) none).run Tryd.prog wx = .ok (.string (strOf [byteOf (48 + k % 10)])) wx := by
  have hs : tenDigits.size = 10 := rfl
  have h := run_slice_string (P := Tryd.prog) wx 9 tenDigits .i64 .i64 ((k : Int) % 10) ((k : Int) % 10 + 1) Tryd.underlying9 (by omega) (by omega) (by rw [hs]; omega)
  have e1 : ((k : Int) % 10).toNat = k % 10 := by omega
  have e2 : ((k : Int) % 10 + 1).toNat = k % 10 + 1 := by omega
  rw [e1, e2, digit_cut ⟨k % 10, by omega⟩] at h
  exact h

def WInv (gs : List UInt8) (k : Nat) (l : List UInt8) : Prop := (k = 0 ∧ l ≠ [] ∧ l = gs) ∨ ((0 < k ∨ l = []) ∧ decs k ++ l = gs)
theorem winv_step {gs l : List UInt8} {k : Nat} (h : WInv gs k l) (hc : 0 < k ∨ l = []) : WInv gs (k / 10) ([byteOf (48 + k % 10)] ++ l) := by
  rcases h with ⟨h1, h2, _⟩ | ⟨_, h2⟩
  · rcases hc with h | h
    · omega
    · exact absurd h h2
  · by_cases hk : k < 10
    · rw [decs_one hk] at h2
      refine .inl ⟨by omega, by simp, ?_⟩
      rw [show k % 10 = k by omega]; exact h2
    · rw [decs_more hk] at h2
      refine .inr ⟨.inl (by omega), ?_⟩
      rw [← h2]; simp
theorem winv_end {gs l : List UInt8} (h : WInv gs 0 l) (hl : l ≠ []) : l = gs := by
  rcases h with ⟨_, _, h⟩ | ⟨h, _⟩
  · exact h
  · rcases h with h | h
    · omega
    · exact absurd h hl

theorem winv_len {gs l : List UInt8} {k : Nat} (h : WInv gs k l) : l.length ≤ gs.length := by
  rcases h with ⟨_, _, h⟩ | ⟨_, h⟩
  · rw [h]; exact Nat.le_refl _
  · rw [← h, List.length_append]; omega

def emptyN : Value → Nat
  | .string s => if s.size = 0 then 1 else 0
  | _ => 0

set_option maxHeartbeats 1000000 in
set_option maxRecDepth 100000 in
theorem Whole_any (n : Nat) (w : World) (h : n ≤ 2147483647) : Calls Tryd.prog 18 #[.int .i64 n] w fun e w' => e = .returned (.string (strOf (decs n))) ∧ w = w' := by
  have hlen : (decs n).length ≤ 10 := decs_len 9 n (by omega)
  generalize hg : decs n = gs at hlen ⊢
  have HG := Lib.hid hg
  clear hg
  go_enter Tryd.func18, Tryd.ntmps18
  go_wp2
  go_loop [0, 3] (fun q v => ∃ (k : Nat) (l : List UInt8), q = .int .i64 k ∧ (k : Int) ≤ 2147483647 ∧ v = .string (strOf l) ∧ WInv gs k l) (fun q v => (intOf q).toNat + emptyN v)
  case atStart => exact ⟨n, [], rfl, by omega, rfl, .inr ⟨.inr rfl, by simpa using HG.out⟩⟩
  case round =>
    obtain ⟨k, l, rfl, hk, rfl, hi⟩ := hrel
    have HI := Lib.hid hi
    have hsl := slice_digit k
    have hsz := strOf_size l
    have hll := winv_len hi
    have hsz3 := strOf_size [byteOf (48 + k % 10)]
    have hcat := strOf_append [byteOf (48 + k % 10)] l
    have hsz2 := strOf_size ([byteOf (48 + k % 10)] ++ l)
    generalize hw : strOf l = s at hsz hcat
    generalize hw2 : strOf ([byteOf (48 + k % 10)] ++ l) = s2 at hcat hsz2
    generalize strOf [byteOf (48 + k % 10)] = s3 at hsl hcat hsz3
    have hno : ¬ 9223372036854775807 < s3.size + s.size := by rw [hsz3, hsz]; simp; omega
    have hne2 : s2.size ≠ 0 := by rw [hsz2]; simp
    have HW := Lib.hid hw
    have HW2 := Lib.hid hw2
    have HSZ := Lib.hid hsz
    have HNE2 := Lib.hid hne2
    clear hi hw hw2 hsz2 hsz3 hll hne2
    by_cases hk0 : 0 < k
    · have HK := Lib.hid hk0
      clear hsz
      go_wp2
      go_round
      case rel => exact ⟨k / 10, _, by go_num, by omega, by rw [HW2.out], winv_step HI.out (.inl HK.out)⟩
      case measure => simp [intOf, emptyN, HNE2.out]; omega
    · obtain rfl : k = 0 := by omega
      by_cases hs0 : s.size = 0
      · have hl0 : l = [] := List.eq_nil_of_length_eq_zero (by rw [← hsz]; exact hs0)
        have HL0 := Lib.hid hl0
        have hse : s = { data := #[] } := by rw [← HW.out, hl0]; rfl
        subst hse
        clear hl0 hsz hs0
        go_wp2
        go_round
        case rel => exact ⟨0, [byteOf 48], by go_num, by omega, congrArg Value.string (by decide +kernel), by simpa [HL0.out] using winv_step HI.out (.inr HL0.out)⟩
        case measure => simp [intOf, emptyN]; decide +kernel
      · have hl0 : l ≠ [] := by intro e; apply hs0; rw [hsz, e]; rfl
        have HL0 := Lib.hid (winv_end HI.out hl0)
        have hne := bytes_ne hs0
        clear hl0 hsz hs0
        go_wp2
        go_ret
        exact ⟨by rw [← HL0.out, HW.out]; rfl, rfl⟩

theorem Digits0_bad (n : Int) (w : World) (h : n < 0 ∨ 2147483647 < n) : Calls Tryd.prog 8 #[.int .i64 n] w fun e w' => e = .returned (.tuple #[.string (strOf []), .int .i64 1]) ∧ w = w' := by
  rcases h with h | h
  · go_enter Tryd.func8, Tryd.ntmps8
    go_wp2
    go_ret2
    exact ⟨rfl, rfl⟩
  · have h0 : ¬ n < 0 := by omega
    go_enter Tryd.func8, Tryd.ntmps8
    go_wp2
    go_ret2
    exact ⟨rfl, rfl⟩

set_option maxRecDepth 100000 in
theorem Digits0_ok (n : Nat) (w : World) (h : n ≤ 2147483647) : Calls Tryd.prog 8 #[.int .i64 n] w fun e w' => e = .returned (.tuple #[.string (strOf (decs n)), .int .i64 0]) ∧ w = w' := by
  have hw := Whole_any n
  generalize strOf (decs n) = s at hw ⊢
  go_enter Tryd.func8, Tryd.ntmps8
  go_wp2_with (go_at_call 18; refine (hw _ h).mono ?_; rintro e w' ⟨rfl, rfl⟩)
  go_ret2
  exact ⟨rfl, rfl⟩
end Go.Proofs.YthchemgkfjmhjaaDoor

/- The program's Get and Number: the number that begins at a place of a text. -/
import Derived.Test.YthchemgkfjmhjaaPut
namespace Go.Proofs.Ythchemgkfjmhjaa
open Go.RowKit

/-- What a reader of numbers finds at place a: o, with a flag (where it is false the two numbers are anything). -/
def RPost (a : Nat) (o : Option (Nat × Nat)) (e : Ending) : Prop :=
  ∃ v j ok, e = .returned (.tuple #[.int .u64 ((v : Nat) : Int), .int .i64 ((j : Nat) : Int), .bool ok]) ∧ v ≤ 18446744073709551615 ∧ ((ok = true ∧ v ≤ 2147483647 ∧ ∃ k, o = some (v, k) ∧ j = a + k) ∨ (ok = false ∧ o = none))
theorem rpost_none {a v j : Nat} {o : Option (Nat × Nat)} {e : Ending} (h : o = none) (hv : v ≤ 18446744073709551615) (he : e = .returned (.tuple #[.int .u64 (v : Int), .int .i64 (j : Int), .bool false])) : RPost a o e := ⟨v, j, false, he, hv, .inr ⟨rfl, h⟩⟩
theorem rpost_some {a v k : Nat} {o : Option (Nat × Nat)} {e : Ending} (h : o = some (v, k)) (hv : v ≤ 2147483647) (he : e = .returned (.tuple #[.int .u64 (v : Int), .int .i64 ((a + k : Nat) : Int), .bool true])) : RPost a o e := ⟨v, a + k, true, he, by omega, .inl ⟨rfl, hv, k, h, rfl⟩⟩

/-- Just those groups are a number's that end in no 0, but for one alone. -/
theorem canon {p : List UInt8} {b : UInt8} (hb : b.toNat < 128) (hp : ∀ a ∈ p, 128 ≤ a.toNat) : groups (gval (p ++ [b])) = p ++ [b] ↔ (b.toNat ≠ 0 ∨ p = []) := by
  induction p with
  | nil =>
    have e : gval ([] ++ [b]) = b.toNat := by show b.toNat % 128 + 128 * 0 = _; omega
    have e2 : byteOf b.toNat = b := by unfold byteOf; simp
    rw [e, groups_one hb, e2]; simp
  | cons a p ih =>
    have ha := hp a (by simp)
    have ha2 := UInt8.toNat_lt a
    have ih' := ih (fun x hx => hp x (by simp [hx]))
    have e : gval (a :: p ++ [b]) = a.toNat % 128 + 128 * gval (p ++ [b]) := rfl
    have e2 : byteOf (a.toNat % 128 + 128) = a := by
      apply UInt8.toNat_inj.1; rw [byteOf_toNat (by omega)]; omega
    by_cases hz : gval (p ++ [b]) = 0
    · have hb0 : b.toNat = 0 := by
        have := gval_snoc p b
        rw [hz] at this
        have h2 : b.toNat % 128 * 128 ^ p.length = 0 := by omega
        rcases Nat.mul_eq_zero.1 h2 with h | h
        · omega
        · have := Nat.pow_pos (n := p.length) (show 0 < 128 by omega); omega
      rw [e, hz, groups_one (by omega)]
      constructor
      · intro h; have := congrArg List.length h; simp at this
      · rintro (h | h)
        · exact absurd hb0 h
        · cases h
    · rw [e, groups_more (by omega), show (a.toNat % 128 + 128 * gval (p ++ [b])) % 128 + 128 = a.toNat % 128 + 128 by omega, show (a.toNat % 128 + 128 * gval (p ++ [b])) / 128 = gval (p ++ [b]) by omega, e2, List.cons_append, List.cons.injEq]
      rw [ih']
      constructor
      · rintro ⟨_, h | h⟩
        · exact .inl h
        · subst h
          left
          intro h0
          apply hz
          show b.toNat % 128 + 128 * 0 = 0; omega
      · rintro (h | h)
        · exact ⟨rfl, .inl h⟩
        · cases h

theorem shift_seven {k x : Nat} (hk : k < 5) (hx : x < 128) : Op.shift .shl .u64 (x : Int) .i64 (7 * (k : Int)) = pure (.int .u64 ((x * 128 ^ k : Nat) : Int)) := by
  have : k = 0 ∨ k = 1 ∨ k = 2 ∨ k = 3 ∨ k = 4 := by omega
  have hy : (0 : Int) ≤ 7 * (k : Int) := by omega
  rw [shift_shl .u64 .i64 (x : Int) (7 * (k : Int)) hy (by show 7 * (k : Int) ≤ 64; omega)]
  have e : (7 * (k : Int)).toNat = 7 * k := by omega
  rw [e, show (128 : Nat) ^ k = 2 ^ (7 * k) by rw [Nat.pow_mul]]
  rcases this with rfl | rfl | rfl | rfl | rfl <;> congr 2 <;> simp [IntKind.wrap, IntKind.bits, IntKind.signed] <;> omega
theorem or_next {n x k : Nat} (hk : k < 5) (hn : n < 128 ^ k) (hx : x < 128) : bits .or .u64 (n : Int) ((x * 128 ^ k : Nat) : Int) = ((n + x * 128 ^ k : Nat) : Int) := by
  have h1 : 128 ^ k ≤ 128 ^ 4 := Nat.pow_le_pow_right (by omega) (by omega)
  have h2 : x * 128 ^ k ≤ 127 * 128 ^ 4 := Nat.mul_le_mul (by omega) h1
  rw [bits_or_u64_nat _ _ (by omega) (by omega)]
  have e : 128 ^ k = 2 ^ (7 * k) := by rw [Nat.pow_mul]
  rw [e] at hn ⊢
  rw [Nat.or_comm, Nat.mul_comm, ← Nat.two_pow_add_eq_or_of_lt hn, Nat.add_comm]

/-- The first k bytes of l all have more behind them. -/
def Mores (l : List UInt8) (k : Nat) : Prop := k ≤ l.length ∧ ∀ a ∈ l.take k, 128 ≤ a.toNat
theorem Mores.next {s : ByteArray} {a k : Nat} (h : Mores (from_ s a) k) (hs : a + k < s.size) (hb : 128 ≤ s[a + k].toNat) : Mores (from_ s a) (k + 1) := by
  refine ⟨by rw [from_len]; omega, ?_⟩
  rw [take_next hs]
  intro x hx
  rcases List.mem_append.1 hx with h1 | h1
  · exact h.2 x h1
  · rw [List.mem_singleton.1 h1]; exact hb
theorem take_len {s : ByteArray} {a k : Nat} (h : a + k ≤ s.size) : ((from_ s a).take k).length = k := by rw [List.length_take, from_len]; omega
theorem gval_next {s : ByteArray} {a k : Nat} (h : a + k < s.size) : gval ((from_ s a).take (k + 1)) = gval ((from_ s a).take k) + s[a + k].toNat % 128 * 128 ^ k := by
  rw [take_next h, gval_snoc, take_len (by omega)]
theorem gval_short {s : ByteArray} {a k : Nat} (h : a + k ≤ s.size) : gval ((from_ s a).take k) < 128 ^ k := by
  have := gval_bound ((from_ s a).take k)
  rwa [take_len h] at this
theorem getO_here {s : ByteArray} {a k : Nat} (h : Mores (from_ s a) k) (hs : a + k < s.size) (hb : s[a + k].toNat < 128) :
    getO (from_ s a) = if gval ((from_ s a).take (k + 1)) ≤ 2147483647 ∧ (s[a + k].toNat ≠ 0 ∨ k = 0) then some (gval ((from_ s a).take (k + 1)), k + 1) else none := by
  have e : from_ s a = (from_ s a).take k ++ [s[a + k]] ++ (from_ s a).drop (k + 1) := by rw [← take_next hs, List.take_append_drop]
  have h1 := getO_end e hb h.2
  simp only [canon hb h.2] at h1
  rw [h1, ← take_next hs, take_len (by omega)]
  have : ((from_ s a).take k = []) ↔ k = 0 := by
    constructor
    · intro h2; have := congrArg List.length h2; rw [take_len (by omega)] at this; simpa using this
    · rintro rfl; simp
  simp only [this]

set_option maxHeartbeats 4000000 in
set_option maxRecDepth 100000 in
theorem groupsAt_any (s : ByteArray) (a : Nat) (w : World) (hs : s.size ≤ 262144) (ha : a ≤ s.size) :
    Calls Try.prog 52 #[.string s, .int .i64 a] w fun e w' => RPost a (getO (from_ s a)) e ∧ w = w' := by
  generalize ho : getO (from_ s a) = o
  have HO := Lib.hid ho
  clear ho
  by_cases h5 : (s.size : Int) - (a : Int) < 5
  · have H5 := Lib.hid h5
    go_enter Try.func52, Try.ntmps52
    go_wp2
    clear h5
    go_loop [7, 16] (fun q i => ∃ k : Nat, (k : Int) ≤ ((s.size : Int) - (a : Int)) ∧ i = .int .i64 k ∧ q = .int .u64 (gval ((from_ s a).take k)) ∧ Mores (from_ s a) k) (fun q i => 5 - (intOf i).toNat)
    case atStart => exact ⟨0, by omega, rfl, by simp [gval], by simp [Mores]⟩
    case round =>
      obtain ⟨k, hk, rfl, rfl, hm⟩ := hrel
      have HM := Lib.hid hm
      clear hm
      by_cases hlt : (k : Int) < ((s.size : Int) - (a : Int))
      · have h5 := H5.out
        have hs1 : a + k < s.size := by omega
        have hk5 : k < 5 := by omega
        have hn := gval_short (s := s) (a := a) (k := k) (by omega)
        have hnx := gval_next hs1
        have hb255 : s[a + k].toNat ≤ 255 := by have := UInt8.toNat_lt s[a + k]; omega
        have hand : bits .and .u8 (s[a + k].toNat : Int) 127 = (s[a + k].toNat : Int) % 128 := by
          rw [show (127 : Int) = ((127 : Nat) : Int) by rfl, u8_and_nat _ _ (by omega) (by omega), show (127 : Nat) = 2 ^ 7 - 1 by rfl, Nat.and_two_pow_sub_one_eq_mod]
          omega
        have hsh := shift_seven (k := k) (x := s[a + k].toNat % 128) hk5 (by omega)
        have hor := or_next (x := s[a + k].toNat % 128) hk5 hn (by omega)
        rw [← hnx] at hor
        have hn2 : gval ((from_ s a).take (k + 1)) ≤ 18446744073709551615 := by
          have h1 : 128 ^ (k + 1) ≤ 128 ^ 5 := Nat.pow_le_pow_right (by omega) (by omega)
          have h2 := gval_short (s := s) (a := a) (k := k + 1) (by omega)
          omega
        have hn0 : gval ((from_ s a).take k) ≤ 18446744073709551615 := by omega
        have hge := getO_here (s := s) (a := a) (k := k)
        have hmx := Mores.next (s := s) (a := a) (k := k)
        have hge : s[a + k].toNat < 128 → _ := fun h => (HO.out.symm.trans (hge HM.out hs1 h))
        generalize hg : gval ((from_ s a).take (k + 1)) = n' at hor hn2 hge
        generalize hg0 : gval ((from_ s a).take k) = n at hor hn0
        push_cast at hsh
        generalize hyy : (s[a + k].toNat % 128) * 128 ^ k = y at hor
        have hyy2 : ((s[a + k].toNat : Int) % 128) * 128 ^ k = (y : Int) := by rw [← hyy]; push_cast; rfl
        rw [hyy2] at hsh
        have HG := Lib.hid hg
        have HGE := Lib.hid hge
        clear hge hnx hn h5 hg hyy hyy2
        generalize hc : s[a + k].toNat = c at hand hsh hb255
        have hmx := fun h => hmx HM.out hs1 h
        rw [hc] at hmx
        by_cases hc1 : 128 ≤ c
        · have HN := Lib.hid (hmx hc1)
          clear hmx
          go_wp2
          go_round
          case rel => exact ⟨k + 1, by omega, by go_num, by rw [HG.out], HN.out⟩
          case measure => simp [intOf]; omega
        · have hge := HGE.out
          rw [hc] at hge
          have hge := hge (by omega)
          clear hmx HGE
          have q0 : decide ((128 : Int) ≤ (c : Int)) = false := decide_eq_false (by omega)
          by_cases hc0 : c = 0
          · have q1 : ((c : Int) != 0) = false := by rw [hc0]; rfl
            by_cases hk0 : k = 0
            · have q2 : ((k : Int) == 0) = true := by rw [hk0]; rfl
              by_cases hn7 : n' ≤ 2147483647
              · have q3 : decide ((n' : Int) ≤ 2147483647) = true := decide_eq_true (by omega)
                rw [if_pos ⟨hn7, .inr hk0⟩] at hge
                have HGE := Lib.hid hge
                clear hc0 hk0 hge
                go_wp2
                refine bodyPost_ret (v := .tuple #[.int .u64 (n' : Int), .int .i64 ((a + (k + 1) : Nat) : Int), .bool true]) (by simp [results, Try.results52, go_sem]; try omega) rfl ⟨rpost_some HGE.out hn7 rfl, rfl⟩
              · have q3 : decide ((n' : Int) ≤ 2147483647) = false := decide_eq_false (by omega)
                rw [if_neg (fun h => hn7 h.1)] at hge
                have HGE := Lib.hid hge
                clear hc0 hk0 hge
                go_wp2
                refine bodyPost_ret (v := .tuple #[.int .u64 (n' : Int), .int .i64 ((a + (k + 1) : Nat) : Int), .bool false]) (by simp [results, Try.results52, go_sem]; try omega) rfl ⟨rpost_none HGE.out hn2 rfl, rfl⟩
            · have q2 : ((k : Int) == 0) = false := by simp; omega
              rw [if_neg (fun h => h.2.elim (fun h => h hc0) hk0)] at hge
              have HGE := Lib.hid hge
              clear hc0 hk0 hge
              go_wp2
              refine bodyPost_ret (v := .tuple #[.int .u64 (n' : Int), .int .i64 ((a + (k + 1) : Nat) : Int), .bool false]) (by simp [results, Try.results52, go_sem]; try omega) rfl ⟨rpost_none HGE.out hn2 rfl, rfl⟩
          · have q1 : ((c : Int) != 0) = true := by simp; omega
            by_cases hn7 : n' ≤ 2147483647
            · have q3 : decide ((n' : Int) ≤ 2147483647) = true := decide_eq_true (by omega)
              rw [if_pos ⟨hn7, .inl hc0⟩] at hge
              have HGE := Lib.hid hge
              clear hc0 hge
              go_wp2
              refine bodyPost_ret (v := .tuple #[.int .u64 (n' : Int), .int .i64 ((a + (k + 1) : Nat) : Int), .bool true]) (by simp [results, Try.results52, go_sem]; try omega) rfl ⟨rpost_some HGE.out hn7 rfl, rfl⟩
            · have q3 : decide ((n' : Int) ≤ 2147483647) = false := decide_eq_false (by omega)
              rw [if_neg (fun h => hn7 h.1)] at hge
              have HGE := Lib.hid hge
              clear hc0 hge
              go_wp2
              refine bodyPost_ret (v := .tuple #[.int .u64 (n' : Int), .int .i64 ((a + (k + 1) : Nat) : Int), .bool false]) (by simp [results, Try.results52, go_sem]; try omega) rfl ⟨rpost_none HGE.out hn2 rfl, rfl⟩
      · have h5 := H5.out
        have HN := Lib.hid (getO_long (l := from_ s a) (j := k) (by rw [from_len]; omega) HM.out.1 HM.out.2)
        go_wp2
        refine bodyPost_ret (v := .tuple #[.int .u64 0, .int .i64 0, .bool false]) (by simp [results, Try.results52, go_sem]) rfl ⟨rpost_none (v := 0) (j := 0) (HO.out.symm.trans HN.out) (by omega) rfl, rfl⟩
  · have H5 := Lib.hid h5
    go_enter Try.func52, Try.ntmps52
    go_wp2
    clear h5
    go_loop [7, 16] (fun q i => ∃ k : Nat, (k : Int) ≤ 5 ∧ i = .int .i64 k ∧ q = .int .u64 (gval ((from_ s a).take k)) ∧ Mores (from_ s a) k) (fun q i => 5 - (intOf i).toNat)
    case atStart => exact ⟨0, by omega, rfl, by simp [gval], by simp [Mores]⟩
    case round =>
      obtain ⟨k, hk, rfl, rfl, hm⟩ := hrel
      have HM := Lib.hid hm
      clear hm
      by_cases hlt : (k : Int) < 5
      · have h5 := H5.out
        have hs1 : a + k < s.size := by omega
        have hk5 : k < 5 := by omega
        have hn := gval_short (s := s) (a := a) (k := k) (by omega)
        have hnx := gval_next hs1
        have hb255 : s[a + k].toNat ≤ 255 := by have := UInt8.toNat_lt s[a + k]; omega
        have hand : bits .and .u8 (s[a + k].toNat : Int) 127 = (s[a + k].toNat : Int) % 128 := by
          rw [show (127 : Int) = ((127 : Nat) : Int) by rfl, u8_and_nat _ _ (by omega) (by omega), show (127 : Nat) = 2 ^ 7 - 1 by rfl, Nat.and_two_pow_sub_one_eq_mod]
          omega
        have hsh := shift_seven (k := k) (x := s[a + k].toNat % 128) hk5 (by omega)
        have hor := or_next (x := s[a + k].toNat % 128) hk5 hn (by omega)
        rw [← hnx] at hor
        have hn2 : gval ((from_ s a).take (k + 1)) ≤ 18446744073709551615 := by
          have h1 : 128 ^ (k + 1) ≤ 128 ^ 5 := Nat.pow_le_pow_right (by omega) (by omega)
          have h2 := gval_short (s := s) (a := a) (k := k + 1) (by omega)
          omega
        have hn0 : gval ((from_ s a).take k) ≤ 18446744073709551615 := by omega
        have hge := getO_here (s := s) (a := a) (k := k)
        have hmx := Mores.next (s := s) (a := a) (k := k)
        have hge : s[a + k].toNat < 128 → _ := fun h => (HO.out.symm.trans (hge HM.out hs1 h))
        generalize hg : gval ((from_ s a).take (k + 1)) = n' at hor hn2 hge
        generalize hg0 : gval ((from_ s a).take k) = n at hor hn0
        push_cast at hsh
        generalize hyy : (s[a + k].toNat % 128) * 128 ^ k = y at hor
        have hyy2 : ((s[a + k].toNat : Int) % 128) * 128 ^ k = (y : Int) := by rw [← hyy]; push_cast; rfl
        rw [hyy2] at hsh
        have HG := Lib.hid hg
        have HGE := Lib.hid hge
        clear hge hnx hn h5 hg hyy hyy2
        generalize hc : s[a + k].toNat = c at hand hsh hb255
        have hmx := fun h => hmx HM.out hs1 h
        rw [hc] at hmx
        by_cases hc1 : 128 ≤ c
        · have HN := Lib.hid (hmx hc1)
          clear hmx
          go_wp2
          go_round
          case rel => exact ⟨k + 1, by omega, by go_num, by rw [HG.out], HN.out⟩
          case measure => simp [intOf]; omega
        · have hge := HGE.out
          rw [hc] at hge
          have hge := hge (by omega)
          clear hmx HGE
          have q0 : decide ((128 : Int) ≤ (c : Int)) = false := decide_eq_false (by omega)
          by_cases hc0 : c = 0
          · have q1 : ((c : Int) != 0) = false := by rw [hc0]; rfl
            by_cases hk0 : k = 0
            · have q2 : ((k : Int) == 0) = true := by rw [hk0]; rfl
              by_cases hn7 : n' ≤ 2147483647
              · have q3 : decide ((n' : Int) ≤ 2147483647) = true := decide_eq_true (by omega)
                rw [if_pos ⟨hn7, .inr hk0⟩] at hge
                have HGE := Lib.hid hge
                clear hc0 hk0 hge
                go_wp2
                refine bodyPost_ret (v := .tuple #[.int .u64 (n' : Int), .int .i64 ((a + (k + 1) : Nat) : Int), .bool true]) (by simp [results, Try.results52, go_sem]; try omega) rfl ⟨rpost_some HGE.out hn7 rfl, rfl⟩
              · have q3 : decide ((n' : Int) ≤ 2147483647) = false := decide_eq_false (by omega)
                rw [if_neg (fun h => hn7 h.1)] at hge
                have HGE := Lib.hid hge
                clear hc0 hk0 hge
                go_wp2
                refine bodyPost_ret (v := .tuple #[.int .u64 (n' : Int), .int .i64 ((a + (k + 1) : Nat) : Int), .bool false]) (by simp [results, Try.results52, go_sem]; try omega) rfl ⟨rpost_none HGE.out hn2 rfl, rfl⟩
            · have q2 : ((k : Int) == 0) = false := by simp; omega
              rw [if_neg (fun h => h.2.elim (fun h => h hc0) hk0)] at hge
              have HGE := Lib.hid hge
              clear hc0 hk0 hge
              go_wp2
              refine bodyPost_ret (v := .tuple #[.int .u64 (n' : Int), .int .i64 ((a + (k + 1) : Nat) : Int), .bool false]) (by simp [results, Try.results52, go_sem]; try omega) rfl ⟨rpost_none HGE.out hn2 rfl, rfl⟩
          · have q1 : ((c : Int) != 0) = true := by simp; omega
            by_cases hn7 : n' ≤ 2147483647
            · have q3 : decide ((n' : Int) ≤ 2147483647) = true := decide_eq_true (by omega)
              rw [if_pos ⟨hn7, .inl hc0⟩] at hge
              have HGE := Lib.hid hge
              clear hc0 hge
              go_wp2
              refine bodyPost_ret (v := .tuple #[.int .u64 (n' : Int), .int .i64 ((a + (k + 1) : Nat) : Int), .bool true]) (by simp [results, Try.results52, go_sem]; try omega) rfl ⟨rpost_some HGE.out hn7 rfl, rfl⟩
            · have q3 : decide ((n' : Int) ≤ 2147483647) = false := decide_eq_false (by omega)
              rw [if_neg (fun h => hn7 h.1)] at hge
              have HGE := Lib.hid hge
              clear hc0 hge
              go_wp2
              refine bodyPost_ret (v := .tuple #[.int .u64 (n' : Int), .int .i64 ((a + (k + 1) : Nat) : Int), .bool false]) (by simp [results, Try.results52, go_sem]; try omega) rfl ⟨rpost_none HGE.out hn2 rfl, rfl⟩
      · have h5 := H5.out
        have HN := Lib.hid (getO_long (l := from_ s a) (j := k) (by rw [from_len]; omega) HM.out.1 HM.out.2)
        go_wp2
        refine bodyPost_ret (v := .tuple #[.int .u64 0, .int .i64 0, .bool false]) (by simp [results, Try.results52, go_sem]) rfl ⟨rpost_none (v := 0) (j := 0) (HO.out.symm.trans HN.out) (by omega) rfl, rfl⟩

theorem dval_next {s : ByteArray} {a j : Nat} (h : a + j < s.size) : dval ((from_ s a).take (j + 1)) = dval ((from_ s a).take j) * 10 + (s[a + j].toNat - 48) := by rw [take_next h, dval_snoc]
theorem DigTo.next {s : ByteArray} {a j : Nat} (h : DigTo s a j) (hd : digAt s (a + j) = true) : DigTo s a (j + 1) := by
  intro i hi
  by_cases e : i = j
  · subst e; exact hd
  · exact h i (by omega)

set_option maxHeartbeats 4000000 in
set_option maxRecDepth 100000 in
theorem digitsAt_any (s : ByteArray) (a : Nat) (w : World) (hs : s.size ≤ 262144) (ha : a ≤ s.size) :
    Calls Try.prog 56 #[.string s, .int .i64 a] w fun e w' => RPost a (numO (from_ s a)) e ∧ w = w' := by
  generalize ho : numO (from_ s a) = o
  have HO := Lib.hid ho
  clear ho
  go_enter Try.func56, Try.ntmps56
  go_wp2
  go_loop [7, 8] (fun q i => ∃ j n : Nat, a + j ≤ s.size ∧ i = .int .i64 ((a + j : Nat) : Int) ∧ q = .int .u64 n ∧ n ≤ 2147483647 ∧ dval ((from_ s a).take j) = n ∧ DigTo s a j) (fun q i => s.size - (intOf i).toNat)
  case atStart => exact ⟨0, 0, by omega, by simp, rfl, by omega, by simp [dval], fun i hi => by omega⟩
  case round =>
    obtain ⟨j, n, hj, rfl, rfl, hn, hnv, hm⟩ := hrel
    have HM := Lib.hid hm
    have HNV := Lib.hid hnv
    clear hm hnv
    by_cases hd : digAt s (a + j) = true
    · have hlt : a + j < s.size := by
        by_cases h : a + j < s.size
        · exact h
        · rw [digAt_ge h] at hd; cases hd
      have hb := isDig_bounds (b := s[a + j]) (by rw [← digAt_lt hlt]; exact hd)
      have hnx := dval_next hlt
      have HD := Lib.hid (HM.out.next hd)
      have hbig := numO_big HD.out
      rw [hnx, HNV.out] at hbig
      rw [HNV.out] at hnx
      generalize hc : s[a + j].toNat = c at hb hnx hbig
      have HNX := Lib.hid hnx
      have HB := Lib.hid hbig
      have hb1 : 48 ≤ c := by omega
      have hb2 : c ≤ 57 := by omega
      clear hd hnx hbig hb
      have qlt : decide (a + j < s.size) = true := decide_eq_true hlt
      by_cases h7 : 2147483647 < n * 10 + (c - 48)
      · have q : decide ((2147483647 : Int) < 10 * (n : Int) + ((c : Int) - 48)) = true := decide_eq_true (by omega)
        have HN := Lib.hid (HO.out.symm.trans (HB.out h7))
        go_wp2
        refine bodyPost_ret (v := .tuple #[.int .u64 0, .int .i64 0, .bool false]) (by simp [results, Try.results56, go_sem]) rfl ⟨rpost_none (v := 0) (j := 0) HN.out (by omega) rfl, rfl⟩
      · have q : decide ((2147483647 : Int) < 10 * (n : Int) + ((c : Int) - 48)) = false := decide_eq_false (by omega)
        go_wp2
        go_round
        case rel => exact ⟨j + 1, n * 10 + (c - 48), by omega, by go_num, by go_num, by omega, HNX.out, HD.out⟩
        case measure => simp [intOf]; omega
    · have hd' : digAt s (a + j) = false := by simpa using hd
      have HD := Lib.hid hd'
      by_cases hj0 : j = 0
      · subst hj0
        have hd' : digAt s a = false := hd'
        have HN := Lib.hid (HO.out.symm.trans (numO_first (s := s) (a := a) hd'))
        by_cases hlt : a < s.size
        · rw [digAt_lt hlt] at hd'
          have hc0 : ¬ (48 ≤ s[a].toNat ∧ s[a].toNat ≤ 57) := fun h2 => by rw [isDig_iff.2 h2] at hd'; cases hd'
          have hc255 : s[a].toNat ≤ 255 := by have := UInt8.toNat_lt s[a]; omega
          generalize hc : s[a].toNat = c at hc0 hc255
          have HC := Lib.hid hc
          clear hd'
          by_cases hc48 : c < 48
          · have qa : decide ((48 : Int) ≤ (c : Int)) = false := decide_eq_false (by omega)
            go_wp2
            refine bodyPost_ret (v := .tuple #[.int .u64 0, .int .i64 0, .bool false]) (by simp [results, Try.results56, go_sem]) rfl ⟨rpost_none (v := 0) (j := 0) HN.out (by omega) rfl, rfl⟩
          · have qa : decide ((48 : Int) ≤ (c : Int)) = true := decide_eq_true (by omega)
            have qb : decide ((c : Int) ≤ 57) = false := decide_eq_false (by omega)
            go_wp2
            refine bodyPost_ret (v := .tuple #[.int .u64 0, .int .i64 0, .bool false]) (by simp [results, Try.results56, go_sem]) rfl ⟨rpost_none (v := 0) (j := 0) HN.out (by omega) rfl, rfl⟩
        · have qlt : decide (a < s.size) = false := decide_eq_false hlt
          clear hd'
          go_wp2
          refine bodyPost_ret (v := .tuple #[.int .u64 0, .int .i64 0, .bool false]) (by simp [results, Try.results56, go_sem]) rfl ⟨rpost_none (v := 0) (j := 0) HN.out (by omega) rfl, rfl⟩
      · have hsa : a < s.size := by omega
        have hz1 := numO_zero (s := s) (a := a) hsa
        have hgood := numO_good (s := s) (a := a) (j := j) HM.out (by omega) hd'
        have hge : (∀ h : a < s.size, s[a].toNat = 48 → digAt s (a + 1) = false) → o = some (n, j) := fun h => by
          have := hgood h (by rw [HNV.out]; exact hn)
          rw [HNV.out] at this
          exact HO.out.symm.trans this
        clear hgood
        by_cases h48 : s[a].toNat = 48
        · by_cases hj1 : j = 1
          · subst hj1
            have HG := Lib.hid (hge (fun _ _ => hd'))
            clear hge hz1
            by_cases hlt : a + 1 < s.size
            · rw [digAt_lt hlt] at hd'
              have hc0 : ¬ (48 ≤ s[a + 1].toNat ∧ s[a + 1].toNat ≤ 57) := fun h2 => by rw [isDig_iff.2 h2] at hd'; cases hd'
              have hc255 : s[a + 1].toNat ≤ 255 := by have := UInt8.toNat_lt s[a + 1]; omega
              generalize hc : s[a + 1].toNat = c at hc0 hc255
              have HC := Lib.hid hc
              clear hd'
              by_cases hc48 : c < 48
              · have qa : decide ((48 : Int) ≤ (c : Int)) = false := decide_eq_false (by omega)
                go_wp2
                refine bodyPost_ret (v := .tuple #[.int .u64 (n : Int), .int .i64 ((a + 1 : Nat) : Int), .bool true]) (by simp [results, Try.results56, go_sem]) rfl ⟨rpost_some HG.out hn rfl, rfl⟩
              · have qa : decide ((48 : Int) ≤ (c : Int)) = true := decide_eq_true (by omega)
                have qb : decide ((c : Int) ≤ 57) = false := decide_eq_false (by omega)
                go_wp2
                refine bodyPost_ret (v := .tuple #[.int .u64 (n : Int), .int .i64 ((a + 1 : Nat) : Int), .bool true]) (by simp [results, Try.results56, go_sem]) rfl ⟨rpost_some HG.out hn rfl, rfl⟩
            · have qlt : decide (a + 1 < s.size) = false := decide_eq_false hlt
              clear hd'
              go_wp2
              refine bodyPost_ret (v := .tuple #[.int .u64 (n : Int), .int .i64 ((a + 1 : Nat) : Int), .bool true]) (by simp [results, Try.results56, go_sem]) rfl ⟨rpost_some HG.out hn rfl, rfl⟩
          · have hj2 : 1 < j := by clear hz1 hge; omega
            have h1 : digAt s (a + 1) = true := HM.out 1 hj2
            have HG := Lib.hid (HO.out.symm.trans (hz1 h48 h1))
            clear hge hz1
            by_cases hlt : a + j < s.size
            · rw [digAt_lt hlt] at hd'
              have hc0 : ¬ (48 ≤ s[a + j].toNat ∧ s[a + j].toNat ≤ 57) := fun h2 => by rw [isDig_iff.2 h2] at hd'; cases hd'
              have hc255 : s[a + j].toNat ≤ 255 := by have := UInt8.toNat_lt s[a + j]; omega
              generalize hc : s[a + j].toNat = c at hc0 hc255
              have HC := Lib.hid hc
              clear hd'
              by_cases hc48 : c < 48
              · have qa : decide ((48 : Int) ≤ (c : Int)) = false := decide_eq_false (by omega)
                go_wp2
                refine bodyPost_ret (v := .tuple #[.int .u64 0, .int .i64 0, .bool false]) (by simp [results, Try.results56, go_sem]) rfl ⟨rpost_none (v := 0) (j := 0) HG.out (by omega) rfl, rfl⟩
              · have qa : decide ((48 : Int) ≤ (c : Int)) = true := decide_eq_true (by omega)
                have qb : decide ((c : Int) ≤ 57) = false := decide_eq_false (by omega)
                go_wp2
                refine bodyPost_ret (v := .tuple #[.int .u64 0, .int .i64 0, .bool false]) (by simp [results, Try.results56, go_sem]) rfl ⟨rpost_none (v := 0) (j := 0) HG.out (by omega) rfl, rfl⟩
            · have qlt : decide (a + j < s.size) = false := decide_eq_false hlt
              clear hd'
              go_wp2
              refine bodyPost_ret (v := .tuple #[.int .u64 0, .int .i64 0, .bool false]) (by simp [results, Try.results56, go_sem]) rfl ⟨rpost_none (v := 0) (j := 0) HG.out (by omega) rfl, rfl⟩
        · have HG := Lib.hid (hge (fun h h2 => absurd h2 h48))
          clear hge hz1
          have q48 : ((s[a].toNat : Int) == 48) = false := (by simpa using fun e => h48 (by omega))
          by_cases hlt : a + j < s.size
          · rw [digAt_lt hlt] at hd'
            have hc0 : ¬ (48 ≤ s[a + j].toNat ∧ s[a + j].toNat ≤ 57) := fun h2 => by rw [isDig_iff.2 h2] at hd'; cases hd'
            have hc255 : s[a + j].toNat ≤ 255 := by have := UInt8.toNat_lt s[a + j]; omega
            generalize hc : s[a + j].toNat = c at hc0 hc255
            have HC := Lib.hid hc
            clear hd'
            by_cases hc48 : c < 48
            · have qa : decide ((48 : Int) ≤ (c : Int)) = false := decide_eq_false (by omega)
              go_wp2
              refine bodyPost_ret (v := .tuple #[.int .u64 (n : Int), .int .i64 ((a + j : Nat) : Int), .bool true]) (by simp [results, Try.results56, go_sem]) rfl ⟨rpost_some HG.out hn rfl, rfl⟩
            · have qa : decide ((48 : Int) ≤ (c : Int)) = true := decide_eq_true (by omega)
              have qb : decide ((c : Int) ≤ 57) = false := decide_eq_false (by omega)
              go_wp2
              refine bodyPost_ret (v := .tuple #[.int .u64 (n : Int), .int .i64 ((a + j : Nat) : Int), .bool true]) (by simp [results, Try.results56, go_sem]) rfl ⟨rpost_some HG.out hn rfl, rfl⟩
          · have qlt : decide (a + j < s.size) = false := decide_eq_false hlt
            clear hd'
            go_wp2
            refine bodyPost_ret (v := .tuple #[.int .u64 (n : Int), .int .i64 ((a + j : Nat) : Int), .bool true]) (by simp [results, Try.results56, go_sem]) rfl ⟨rpost_some HG.out hn rfl, rfl⟩
end Go.Proofs.Ythchemgkfjmhjaa

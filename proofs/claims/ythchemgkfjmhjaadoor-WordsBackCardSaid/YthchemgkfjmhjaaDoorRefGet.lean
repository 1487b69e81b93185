/- The document's Get: the number whose groups begin at a place of a text. -/
import Derived.Test.YthchemgkfjmhjaaDoorRefRead
import Derived.Test.YthchemgkfjmhjaaDoorGetP
namespace Go.Proofs.YthchemgkfjmhjaaDoor
open Go.RowKit

/-- What Get0 finds: o, with a flag (where it is false the two numbers are anything). -/
def GPost (a : Nat) (o : Option (Nat × Nat)) (e : Ending) : Prop :=
  ∃ v j ok, e = .returned (.tuple #[.int .i64 ((v : Nat) : Int), .int .i64 ((j : Nat) : Int), .bool ok]) ∧ ((ok = true ∧ ∃ k, o = some (v, k) ∧ j = a + k) ∨ (ok = false ∧ o = none))
theorem gpost_none {a v j : Nat} {o : Option (Nat × Nat)} {e : Ending} (h : o = none) (he : e = .returned (.tuple #[.int .i64 (v : Int), .int .i64 (j : Int), .bool false])) : GPost a o e := ⟨v, j, false, he, .inr ⟨rfl, h⟩⟩
theorem gpost_some {a v k : Nat} {o : Option (Nat × Nat)} {e : Ending} (h : o = some (v, k)) (he : e = .returned (.tuple #[.int .i64 (v : Int), .int .i64 ((a + k : Nat) : Int), .bool true])) : GPost a o e := ⟨v, a + k, true, he, .inl ⟨rfl, k, h, rfl⟩⟩
theorem below_drewN2 {B : Nat} {a w : World} (h : Below B a w) (n : Nat) : Below B a (w.drewN n) := ⟨h.os, h.tape, h.output, h.size, h.block⟩
theorem extract_take {s : ByteArray} {a m : Nat} : s.extract a (a + m) = strOf ((from_ s a).take m) := by
  apply ByteArray.ext
  apply Array.toList_inj.1
  simp [ByteArray.data_extract, List.drop_take, strOf, from_]
theorem strOf_toList (l : List UInt8) : (strOf l).toList = l := by rw [ByteArray.toList_eq]; simp [strOf]
theorem strOf_inj {l r : List UInt8} (h : strOf l = strOf r) : l = r := by
  have := congrArg (fun b : ByteArray => b.data.toList) h
  simpa [strOf] using this

set_option maxHeartbeats 4000000 in
set_option maxRecDepth 100000 in
theorem Get0_any (s : ByteArray) (a : Nat) (w : World) (hs : s.size ≤ 262144) (ha : a ≤ s.size) :
    Calls Tryd.prog 22 #[.string s, .int .i64 a] w fun e w' => GPost a (getO (from_ s a)) e ∧ Below w.heap.size w w' := by
  generalize ho : getO (from_ s a) = o
  have HO := Lib.hid ho
  clear ho
  go_enter Tryd.func22, Tryd.ntmps22
  go_wp2
  go_loop [7, 8, 9] (fun q u i => ∃ k n x : Nat, k ≤ 5 ∧ a + k ≤ s.size ∧ i = .int .i64 ((a + k : Nat) : Int) ∧ q = .int .i64 n ∧ u = .int .i64 x ∧ n = gval ((from_ s a).take k) ∧ x = 128 ^ k ∧ Mores (from_ s a) k) (fun q u i => a + 5 - (intOf i).toNat)
  case atStart => exact ⟨0, 0, 1, by omega, by omega, by simp, rfl, rfl, by simp [gval], by simp, by simp [Mores]⟩
  case round =>
    obtain ⟨k, n, x, hk, hak, rfl, rfl, rfl, hn, hx, hm⟩ := hrel
    have HM := Lib.hid hm
    clear hm
    have hx5 : x ≤ 128 ^ 5 := by rw [hx]; exact Nat.pow_le_pow_right (by omega) hk
    have hxi : (x : Int) ≤ 34359738368 := by omega
    have HX := Lib.hid hx
    have hnl := gval_short (s := s) (a := a) (k := k) hak
    rw [← hn, ← hx] at hnl
    have hni : (n : Int) ≤ 34359738368 := by omega
    by_cases hlt : k < 5 ∧ a + k < s.size
    · obtain ⟨hk5, hs1⟩ := hlt
      have hnx := gval_next hs1
      rw [← hn, ← hx] at hnx
      have hsh2 := gval_short (s := s) (a := a) (k := k + 1) (by omega)
      have hp5 : 128 ^ (k + 1) ≤ 128 ^ 5 := Nat.pow_le_pow_right (by omega) (by omega)
      have hb255 : s[a + k].toNat ≤ 255 := by have := UInt8.toNat_lt s[a + k]; omega
      have hge := getO_here HM.out hs1
      have hmx := Mores.next HM.out hs1
      have hcan := canon (p := (from_ s a).take k) (b := s[a + k])
      rw [← take_next hs1] at hcan
      have hcan := fun h => hcan h HM.out.2
      have hemp : (from_ s a).take k = [] ↔ k = 0 := by
        constructor
        · intro h2; have := congrArg List.length h2; rw [take_len (by omega)] at this; simpa using this
        · rintro rfl; simp
      generalize hg : gval ((from_ s a).take (k + 1)) = n' at hnx hge hcan hsh2
      generalize hc : s[a + k].toNat = c at hnx hge hmx hcan hb255
      have hmul : (c : Int) % 128 * (x : Int) = ((c % 128 * x : Nat) : Int) := by push_cast; rfl
      have hcx : c % 128 * x ≤ n' := by omega
      generalize c % 128 * x = y at hnx hmul hcx
      have hyi : (y : Int) ≤ 34359738368 := by omega
      have hnn : (n : Int) + (y : Int) = (n' : Int) := by omega
      have hn35 : (n' : Int) ≤ 34359738368 := by omega
      have HG := Lib.hid hg
      skip
      clear hn hx hg hnl hnx hsh2 hp5
      by_cases hc1 : c < 128
      · have hge := hge hc1
        have hcan := hcan hc1
        by_cases hbig : n' ≤ 2147483647
        · have hput := fun wx => Put0_ok n' wx hbig
          have hsl := fun wx => run_slice_string (P := Tryd.prog) wx 9 s .i64 .i64 (a : Int) ((a : Int) + (k : Int) + 1) Tryd.underlying9 (by omega) (by omega) (by omega)
          have e1 : ((a : Int)).toNat = a := by omega
          have e2 : ((a : Int) + (k : Int) + 1).toNat = a + (k + 1) := by omega
          rw [e1, e2, extract_take] at hsl
          by_cases hcn : c ≠ 0 ∨ k = 0
          · have heq : groups n' = (from_ s a).take (k + 1) := hcan.2 (hcn.imp_right (fun h => hemp.2 h))
            rw [if_pos ⟨hbig, hcn⟩] at hge
            have HGE := Lib.hid (HO.out.symm.trans hge)
            rw [← heq] at hsl
            generalize strOf (groups n') = t at hput hsl
            clear hge hcan hemp heq hcn hmx e1 e2
            go_wp2_with (go_at_call 6; refine (hput _).mono ?_; rintro e w1 ⟨rfl, hb1⟩; have HB1 := Lib.hid hb1; clear hb1)
            go_quiet (fail)
            go_wp2
            refine bodyPost_ret (v := .tuple #[.int .i64 (n' : Int), .int .i64 ((a + (k + 1) : Nat) : Int), .bool true]) (by simp [results, Tryd.results22, go_sem]; try omega) rfl ⟨gpost_some HGE.out rfl, below_drewN2 HB1.out _⟩
          · have hne : groups n' ≠ (from_ s a).take (k + 1) := fun e => hcn ((hcan.1 e).imp_right (fun h => hemp.1 h))
            rw [if_neg (fun h => hcn h.2)] at hge
            have HGE := Lib.hid (HO.out.symm.trans hge)
            have hnt : ((strOf (groups n')).toList == (strOf ((from_ s a).take (k + 1))).toList) = false := by rw [strOf_toList, strOf_toList]; simpa using hne
            generalize strOf (groups n') = t at hput hnt
            generalize strOf ((from_ s a).take (k + 1)) = t' at hsl hnt
            clear hge hcan hemp hcn hmx e1 e2 hne
            go_wp2_with (go_at_call 6; refine (hput _).mono ?_; rintro e w1 ⟨rfl, hb1⟩; have HB1 := Lib.hid hb1; clear hb1)
            go_quiet (fail)
            go_wp2
            refine bodyPost_ret (v := .tuple #[.int .i64 (n' : Int), .int .i64 ((a + (k + 1) : Nat) : Int), .bool false]) (by simp [results, Tryd.results22, go_sem]; try omega) rfl ⟨gpost_none HGE.out rfl, below_drewN2 HB1.out _⟩
        · have hput := fun wx => Put0_bad (n' : Int) wx (.inr (by omega))
          rw [if_neg (fun h => hbig h.1)] at hge
          have HGE := Lib.hid (HO.out.symm.trans hge)
          clear hge hcan hemp hmx
          go_wp2_with (go_at_call 6; refine (hput _).mono ?_; rintro e w1 ⟨rfl, rfl⟩)
          go_quiet (fail)
          go_wp2
          refine bodyPost_ret (v := .tuple #[.int .i64 (n' : Int), .int .i64 ((a + (k + 1) : Nat) : Int), .bool false]) (by simp [results, Tryd.results22, go_sem]; try omega) rfl ⟨gpost_none HGE.out rfl, below_drewN2 (Below.refl _ _) _⟩
      · have HMX := Lib.hid (hmx (by omega))
        have hx128 : 128 ^ (k + 1) = x * 128 := by rw [HX.out, Nat.pow_succ]
        have HX2 := Lib.hid hx128.symm
        have hx34 : (x : Int) ≤ 268435456 := by
          have h4 : 128 ^ k ≤ 128 ^ 4 := Nat.pow_le_pow_right (by omega) (by omega)
          have := HX.out; omega
        clear hge hcan hemp hmx hx128
        go_wp2
        go_round
        case rel => exact ⟨k + 1, n', x * 128, by omega, by omega, by go_num, rfl, by go_num, HG.out.symm, HX2.out, HMX.out⟩
        case measure => simp [intOf]; omega
    · have HN := Lib.hid (getO_long (l := from_ s a) (j := k) (by rw [from_len]; omega) HM.out.1 HM.out.2)
      by_cases h5 : a + k < s.size
      · have hk5 : k = 5 := by omega
        subst hk5
        have q : decide ((a : Int) + 5 < (a : Int) + 5) = false := decide_eq_false (by omega)
        clear hlt hn hx hnl
        go_wp2
        refine bodyPost_ret (v := .tuple #[.int .i64 0, .int .i64 0, .bool false]) (by simp [results, Tryd.results22, go_sem]) rfl ⟨gpost_none (v := 0) (j := 0) (HO.out.symm.trans HN.out) rfl, Below.refl _ _⟩
      · have q : decide (a + k < s.size) = false := decide_eq_false h5
        clear hlt hn hx hnl
        go_wp2
        refine bodyPost_ret (v := .tuple #[.int .i64 0, .int .i64 0, .bool false]) (by simp [results, Tryd.results22, go_sem]) rfl ⟨gpost_none (v := 0) (j := 0) (HO.out.symm.trans HN.out) rfl, Below.refl _ _⟩
end Go.Proofs.YthchemgkfjmhjaaDoor

/- Hash: the statements' own lit and works. -/
import Derived.Test.YtbeaicmjohlboabHshC
namespace Go.Proofs.Ytbeaicmjohlboab
open Go.RowKit Go.Maps

set_option maxHeartbeats 2000000 in
set_option maxRecDepth 100000 in
theorem litH_any (w : World) (g n : Nat) (T : List Bool) (l : Int) (h : Tab w g T) (hT : T.length = n) (h0 : 0 ≤ l) (h1 : l / 2 < (n : Int)) (hn : n ≤ 1000000) :
    Calls Try.prog 24 #[.slice (some ⟨g, 0, none⟩) n n, .int .i64 l] w fun e w' => e = .returned (.bool (litV T l)) ∧ w' = w := by
  obtain ⟨q, hq⟩ : ∃ q : Nat, l / 2 = (q : Int) := ⟨(l / 2).toNat, by omega⟩
  have hqn : q < n := by omega
  have hq2 : l.tdiv 2 = (q : Int) := by rw [tdiv_nn h0, hq]
  have hr2 : l.tmod 2 = l % 2 := Int.tmod_eq_emod_of_nonneg h0
  have hqw : IntKind.i64.wrap (q : Int) = (q : Int) := by simp [IntKind.wrap, IntKind.bits, IntKind.signed]; omega
  have hqi : (q : Int) < (n : Int) := by omega
  have hqi0 : (0 : Int) ≤ (q : Int) := by omega
  obtain ⟨b, hb⟩ : ∃ b, T.getD q false = b := ⟨_, rfl⟩
  have k0 := Tab.cell h (getD_bool (show q < T.length by rw [hT]; exact hqn))
  rw [hb] at k0
  have hv : litV T l = (b != (l % 2 == 1)) := by unfold litV; rw [hq, Int.toNat_natCast, hb]
  rw [hv]
  have hm : l % 2 = 0 ∨ l % 2 = 1 := by omega
  obtain ⟨r, hr⟩ : ∃ r, l % 2 = r := ⟨_, rfl⟩
  rw [hr] at hr2 hm ⊢
  have hrw : IntKind.i64.wrap r = r := by rcases hm with e | e <;> (subst e; rfl)
  clear h hT hb hv hr h0 h1 hq
  rcases hm with e | e
  · subst e
    cases b <;>
    · go_enter Try.func24, Try.ntmps24
      go_wp2
      go_ret
      exact ⟨rfl, rfl⟩
  · subst e
    cases b <;>
    · go_enter Try.func24, Try.ntmps24
      go_wp2
      go_ret
      exact ⟨rfl, rfl⟩

def exB1 : Bd := ⟨2, 0, [(4, 2)]⟩
def exB2 : Bd := ⟨2, 0, [(4, 2), (5, 3), (9, 7)]⟩
theorem exB_and : (bdN 2 0).And 4 2 = ((6, 0), exB1) := by rfl
theorem exB_xor : exB1.Xor 2 4 = ((10, 0), exB2) := by rfl
theorem exB_or : exB2.Or 2 4 = ((9, 0), exB2) := by rfl
set_option maxHeartbeats 4000000 in
set_option maxRecDepth 100000 in
theorem worksH_any (w : World) : Calls Try.prog 10 #[] w fun e w' => e = .returned (.bool true) ∧ Below w.heap.size w w' := by
  have HA1 := Lib.hid (fun (wx : World) (bx : Nat) (F : Nat → Prop) (h : HB wx bx (bdN 2 0) F) => (show Calls Try.prog 33 #[.pointer (some ⟨bx, 0, none⟩), .int .i64 4, .int .i64 2] wx fun e w' => e = .returned (.tuple #[.int .i64 6, .int .i64 0]) ∧ Did wx w' bx F exB1 from by
    have := hAnd_any wx bx _ F 4 2 h (by unfold I64; omega) (by unfold I64; omega)
    rw [exB_and] at this
    exact this))
  have HA2 := Lib.hid (fun (wx : World) (bx : Nat) (F : Nat → Prop) (h : HB wx bx exB1 F) => (show Calls Try.prog 30 #[.pointer (some ⟨bx, 0, none⟩), .int .i64 2, .int .i64 4] wx fun e w' => e = .returned (.tuple #[.int .i64 10, .int .i64 0]) ∧ Did wx w' bx F exB2 from by
    have := hXor_any wx bx _ F 2 4 h (by unfold I64; omega) (by unfold I64; omega)
    rw [exB_xor] at this
    exact this))
  have HA3 := Lib.hid (fun (wx : World) (bx : Nat) (F : Nat → Prop) (h : HB wx bx exB2 F) => (show Calls Try.prog 29 #[.pointer (some ⟨bx, 0, none⟩), .int .i64 2, .int .i64 4] wx fun e w' => e = .returned (.tuple #[.int .i64 9, .int .i64 0]) ∧ Did wx w' bx F exB2 from by
    have := hOr_any wx bx _ F 2 4 h (by unfold I64; omega) (by unfold I64; omega)
    rw [exB_or] at this
    exact this))
  have HSZ := Lib.hid (fun (wx : World) (bx : Nat) (F : Nat → Prop) (h : HB wx bx exB2 F) => (show Calls Try.prog 12 #[.pointer (some ⟨bx, 0, none⟩)] wx fun e w' => e = .returned (.int .i64 3) ∧ w' = wx from hSize_any wx bx _ F h))
  have HN := Lib.hid (hNew_any w 2 0)
  go_enter Try.func10, Try.ntmps10
  go_upto_region 2 with (go_at_call 8; refine HN.out.mono ?_; rintro e w1 ⟨hb1, hyes, _⟩; obtain ⟨bx, F, rfl, hh, hf⟩ := hyes (by decide); have HB1 := Lib.hid (And.intro hb1 hf); have HH1 := Lib.hid hh; clear hb1 hyes hh hf)
  go_upto_region 5 with (go_at_call 33; refine (HA1.out _ _ _ HH1.out).mono ?_; rintro e w2 ⟨rfl, F2, h2, hu2, hf2⟩; have HH2 := Lib.hid h2; have HU2 := Lib.hid (And.intro hu2 hf2); clear h2 hu2 hf2)
  go_upto_region 6 with (go_at_call 30; refine (HA2.out _ _ _ HH2.out).mono ?_; rintro e w3 ⟨rfl, hd3⟩; obtain ⟨F3, h3, hu3, hf3⟩ := Did.step HU2.out.1 HU2.out.2 hd3; have HH3 := Lib.hid h3; have HU3 := Lib.hid (And.intro hu3 hf3); clear hd3 h3 hu3 hf3)
  go_upto_region 7 with (go_at_call 29; refine (HA3.out _ _ _ HH3.out).mono ?_; rintro e w4 ⟨rfl, hd4⟩; obtain ⟨F4, h4, hu4, hf4⟩ := Did.step HU3.out.1 HU3.out.2 hd4; have HH4 := Lib.hid h4; have HU4 := Lib.hid (And.intro hu4 hf4); clear hd4 h4 hu4 hf4)
  go_wp2_with (go_at_call 12; refine (HSZ.out _ _ _ HH4.out).mono ?_; rintro e w5 ⟨rfl, hw5⟩; rw [hw5]; clear hw5 w5)
  go_ret
  exact ⟨rfl, HB1.out.1.trans (HU4.out.1.below HB1.out.1.size HB1.out.2)⟩
end Go.Proofs.Ytbeaicmjohlboab

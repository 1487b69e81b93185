/- Hash: the statements' own lit and works. -/
import Derived.Test.YtahjmkdpnkffhaaHshC
namespace Go.Proofs.Ytahjmkdpnkffhaa
open Go.RowKit Go.Maps

def exB1 : Bd := ⟨2, 0, [(4, 2)]⟩
def exB2 : Bd := ⟨2, 0, [(4, 2), (5, 3), (9, 7)]⟩
theorem exB_and : (bdN 2 0).And 4 2 = ((6, 0), exB1) := by rfl
theorem exB_xor : exB1.Xor 2 4 = ((10, 0), exB2) := by rfl
theorem exB_or : exB2.Or 2 4 = ((9, 0), exB2) := by rfl
set_option maxHeartbeats 4000000 in
set_option maxRecDepth 100000 in
theorem worksH_any (w : World) : Calls Try.prog 15 #[] w fun e w' => e = .returned (.bool true) ∧ Below w.heap.size w w' := by
  have HA1 := Lib.hid (fun (wx : World) (bx : Nat) (F : Nat → Prop) (h : HB wx bx (bdN 2 0) F) => (show Calls Try.prog 62 #[.pointer (some ⟨bx, 0, none⟩), .int .i64 4, .int .i64 2] wx fun e w' => e = .returned (.tuple #[.int .i64 6, .int .i64 0]) ∧ Did wx w' bx F exB1 from by
    have := hAnd_any wx bx _ F 4 2 h (by unfold I64; omega) (by unfold I64; omega)
    rw [exB_and] at this
    exact this))
  have HA2 := Lib.hid (fun (wx : World) (bx : Nat) (F : Nat → Prop) (h : HB wx bx exB1 F) => (show Calls Try.prog 35 #[.pointer (some ⟨bx, 0, none⟩), .int .i64 2, .int .i64 4] wx fun e w' => e = .returned (.tuple #[.int .i64 10, .int .i64 0]) ∧ Did wx w' bx F exB2 from by
    have := hXor_any wx bx _ F 2 4 h (by unfold I64; omega) (by unfold I64; omega)
    rw [exB_xor] at this
    exact this))
  have HA3 := Lib.hid (fun (wx : World) (bx : Nat) (F : Nat → Prop) (h : HB wx bx exB2 F) => (show Calls Try.prog 34 #[.pointer (some ⟨bx, 0, none⟩), .int .i64 2, .int .i64 4] wx fun e w' => e = .returned (.tuple #[.int .i64 9, .int .i64 0]) ∧ Did wx w' bx F exB2 from by
    have := hOr_any wx bx _ F 2 4 h (by unfold I64; omega) (by unfold I64; omega)
    rw [exB_or] at this
    exact this))
  have HSZ := Lib.hid (fun (wx : World) (bx : Nat) (F : Nat → Prop) (h : HB wx bx exB2 F) => (show Calls Try.prog 17 #[.pointer (some ⟨bx, 0, none⟩)] wx fun e w' => e = .returned (.int .i64 3) ∧ w' = wx from hSize_any wx bx _ F h))
  have HN := Lib.hid (hNew_any w 2 0)
  go_enter Try.func15, Try.ntmps15
  go_upto_region 2 with (go_at_call 13; refine HN.out.mono ?_; rintro e w1 ⟨hb1, hyes, _⟩; obtain ⟨bx, F, rfl, hh, hf⟩ := hyes (by decide); have HB1 := Lib.hid (And.intro hb1 hf); have HH1 := Lib.hid hh; clear hb1 hyes hh hf)
  go_upto_region 5 with (go_at_call 62; refine (HA1.out _ _ _ HH1.out).mono ?_; rintro e w2 ⟨rfl, F2, h2, hu2, hf2⟩; have HH2 := Lib.hid h2; have HU2 := Lib.hid (And.intro hu2 hf2); clear h2 hu2 hf2)
  go_upto_region 6 with (go_at_call 35; refine (HA2.out _ _ _ HH2.out).mono ?_; rintro e w3 ⟨rfl, hd3⟩; obtain ⟨F3, h3, hu3, hf3⟩ := Did.step HU2.out.1 HU2.out.2 hd3; have HH3 := Lib.hid h3; have HU3 := Lib.hid (And.intro hu3 hf3); clear hd3 h3 hu3 hf3)
  go_upto_region 7 with (go_at_call 34; refine (HA3.out _ _ _ HH3.out).mono ?_; rintro e w4 ⟨rfl, hd4⟩; obtain ⟨F4, h4, hu4, hf4⟩ := Did.step HU3.out.1 HU3.out.2 hd4; have HH4 := Lib.hid h4; have HU4 := Lib.hid (And.intro hu4 hf4); clear hd4 h4 hu4 hf4)
  go_wp2_with (go_at_call 17; refine (HSZ.out _ _ _ HH4.out).mono ?_; rintro e w5 ⟨rfl, hw5⟩; rw [hw5]; clear hw5 w5)
  go_ret
  exact ⟨rfl, HB1.out.1.trans (HU4.out.1.below HB1.out.1.size HB1.out.2)⟩
end Go.Proofs.Ytahjmkdpnkffhaa

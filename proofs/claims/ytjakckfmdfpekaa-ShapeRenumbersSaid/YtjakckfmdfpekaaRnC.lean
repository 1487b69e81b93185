/- What memory holds while the document's own Renumber writes. -/
import Derived.Test.YtjakckfmdfpekaaRfO
import Derived.Test.YtjakckfmdfpekaaRenE
import Derived.Test.YtjakckfmdfpekaaBin
import Derived.Test.YtjakckfmdfpekaaCopyB
namespace Go.Proofs.Ytjakckfmdfpekaa
open Go.RowKit

theorem xor_low {x b : Nat} (hx : x % 2 = 0) (hb : b < 2) : x ^^^ b = x + b := by
  have hb2 : b = 0 ∨ b = 1 := by omega
  rcases hb2 with rfl | rfl
  · simp
  · apply Nat.eq_of_testBit_eq
    intro i
    have e : x = 2 * (x / 2) := by omega
    rw [Nat.testBit_xor]
    cases i with
    | zero =>
      have h2 : (x + 1) % 2 = 1 := by omega
      simp [Nat.testBit_zero, hx, h2]
    | succ i =>
      rw [Nat.testBit_succ, Nat.testBit_succ, Nat.testBit_succ]
      have e1 : 1 / 2 = 0 := rfl
      rw [show (x + 1) / 2 = x / 2 by omega, e1]
      simp
theorem xor_lit {x b : Int} (h0 : 0 ≤ x) (h1 : x % 2 = 0) (h2 : x ≤ 1000000) (hb0 : 0 ≤ b) (hb1 : b < 2) : bits .xor .i64 x b = x + b := by
  obtain ⟨n, rfl⟩ : ∃ n : Nat, x = (n : Int) := ⟨x.toNat, by omega⟩
  obtain ⟨k, rfl⟩ : ∃ k : Nat, b = (k : Int) := ⟨b.toNat, by omega⟩
  have e := xor_low (x := n) (b := k) (by omega) (by omega)
  have hn : n < 2 ^ 64 := by omega
  have hk : k < 2 ^ 64 := by omega
  show IntKind.i64.wrap ((BitVec.ofInt 64 (n : Int) ^^^ BitVec.ofInt 64 (k : Int)).toNat : Int) = _
  rw [BitVec.toNat_xor, BitVec.ofInt_natCast, BitVec.ofInt_natCast, BitVec.toNat_ofNat, BitVec.toNat_ofNat, Nat.mod_eq_of_lt hn, Nat.mod_eq_of_lt hk, e]
  simp [IntKind.wrap, IntKind.bits, IntKind.signed]
  omega
/-- Entries of a map. -/
def EvenM (M : List Int) : Prop := M.length ≤ 100000 ∧ ∀ x ∈ M, 0 ≤ x ∧ x % 2 = 0 ∧ x ≤ 1000000
set_option maxHeartbeats 400000 in
set_option maxRecDepth 100000 in
theorem rLit_any (w : World) (gm : Nat) (M : List Int) (l : Int) (hg : Nums w gm M) (h0 : 0 ≤ l) (hl : l / 2 < (M.length : Int)) (he : EvenM M) :
    Calls Try.prog 49 #[.slice (some ⟨gm, 0, none⟩) M.length M.length, .int .i64 l] w fun e w' => e = .returned (.int .i64 (mvF M l)) ∧ w' = w := by
  obtain ⟨hM, he⟩ := he
  have hk : (l / 2).toNat < M.length := by omega
  have hx := getD_some hk (d := 0)
  have c1 := hg.cell hx
  unfold mvF
  obtain ⟨x, hxe⟩ : ∃ x, M.getD (l / 2).toNat 0 = x := ⟨_, rfl⟩
  obtain ⟨x0, x1, x2⟩ := he _ (List.mem_of_getElem? hx)
  rw [hxe] at c1 x0 x1 x2
  rw [hxe]
  have hq := tdiv_nn (b := 2) h0
  have hq0 : 0 ≤ l / 2 := by omega
  clear hg hx hk hxe he
  go_enter Try.func49, Try.ntmps49
  go_wp2
  go_ret
  refine ⟨ret_int ?_, rfl⟩
  exact xor_lit x0 x1 x2 (by omega) (by omega)
set_option maxHeartbeats 1000000 in
set_option maxRecDepth 100000 in
theorem rLits_any (w : World) (gm : Nat) (M : List Int) (v : Value) (zs : List Int) (hg : Nums w gm M) (he : EvenM M) (h : RowE 1 encI w v zs) (hz : ∀ z ∈ zs, 0 ≤ z ∧ z / 2 < (M.length : Int)) (hn16 : zs.length * 8 ≤ 140737488355328) :
    Calls Try.prog 50 #[.slice (some ⟨gm, 0, none⟩) M.length M.length, v] w fun e w' => ∃ v', e = .returned v' ∧ w'.ownsRow w.heap.size 3 1 v' zs.length ((zs.map (mvF M)).map (Value.int .i64)) ∧ Below w.heap.size w w' := by
  obtain ⟨A, c, rfl, hc, hmx, hp⟩ := h
  have HP := Lib.hid hp
  have HZ := Lib.hid hz
  have HG := Lib.hid hg
  have HB0 := Lib.hid (Below.refl w.heap.size w)
  have HLT := Lib.hid (Blk.lt hg)
  have HC := Lib.hid (fun (wx : World) (l : Int) (hx : Nums wx gm M) (h0 : 0 ≤ l) (h1 : l / 2 < (M.length : Int)) => rLit_any wx gm M l hx h0 h1 he)
  obtain ⟨n, hn⟩ : ∃ n, zs.length = n := ⟨_, rfl⟩
  obtain ⟨N, hN⟩ : ∃ N, M.length = N := ⟨_, rfl⟩
  have HN := Lib.hid hn
  rw [hN] at HC HZ
  rw [hn] at hn16 hc
  rw [hn, hN]
  clear hp hc hmx hz hg he hn hN
  go_enter Try.func50, Try.ntmps50
  go_wp2
  go_loopg [5, 6] n (fun j ov iv wr => ∃ k : Nat, k ≤ n ∧ iv = .int .i64 k ∧ j = n - k ∧ wr.ownsRow w.heap.size 3 1 ov k (((zs.take k).map (mvF M)).map (Value.int .i64)) ∧ Below w.heap.size w wr)
  case atStart => exact ⟨0, Nat.zero_le _, rfl, rfl, ⟨rfl, .inl ⟨rfl, rfl⟩⟩, HB0.out⟩
  case round =>
    obtain ⟨k, hk, rfl, hgk, hown, hbl⟩ := hrel
    subst hgk
    have HO := Lib.hid hown
    have HB := Lib.hid hbl
    clear hown hbl HB0
    by_cases hlt : k < n
    · have hx := List.getElem?_eq_getElem (l := zs) (i := k) (by rw [HN.out]; exact hlt)
      generalize zs[k]'(by rw [HN.out]; exact hlt) = x at hx
      obtain ⟨b, off, rfl, hb, hcell⟩ := HP.out k x hx
      have i0 := (HB.out.cell (p := ⟨b, off + (k * 1 + 0), none⟩) hb).trans (hcell 0 _ rfl)
      simp only [Nat.add_zero, Nat.mul_one] at i0
      have HX := Lib.hid hx
      have hxz := HZ.out x (List.mem_of_getElem? hx)
      have HCC := Lib.hid (HC.out wr x (Blk.below HG.out HB.out HLT.out) hxz.1 hxz.2)
      clear hx hcell
      have hk0 : (0 : Int) ≤ (k : Int) := by omega
      have hk1 : (k : Int) < (n : Int) := by omega
      obtain ⟨Ao, co, hov⟩ := own_slice HO.out
      subst hov
      obtain ⟨i0', hi0, hz0, hz1, hz2⟩ := info_of2 infoI2
      have HI0 := Lib.hid (And.intro hi0 (And.intro hz0 (And.intro hz1 hz2)))
      have HR := Lib.hid (reads_one wr (.int .i64 (mvF M x)) 3)
      have hsz := HB.out.size
      have HTK : Hid (((zs.take (k + 1)).map (mvF M)).map (Value.int .i64) = ((zs.take k).map (mvF M)).map (Value.int .i64) ++ [.int .i64 (mvF M x)]) := Lib.hid (by rw [List.take_add_one, HX.out]; simp)
      clear hi0 hz0 hz1 hz2 hxz
      go_wp2_with (first
        | (go_at_call 49; refine HCC.out.mono ?_; rintro e w1 ⟨rfl, rfl⟩)
        | (at_builtin; refine wpList_append_any _ rfl (.tmp 13) (.tmp 20) _ rfl w.heap.size 3 i0' _ 1 8 Try.underlying22 HI0.out.1 HI0.out.2.1 HI0.out.2.2.1 HI0.out.2.2.2 rfl (by omega) (.slice Ao k co) k (((zs.take k).map (mvF M)).map (Value.int .i64)) rfl (HO.out.alloc _) (w1.heap.size + 1) (some ⟨w1.heap.size, 0, none⟩) 1 1 [.int .i64 (mvF M x)] rfl HR.out (by simp [Value.oneCell']) (by simp only [maxLen]; omega) (by omega) (by simp; omega) ?_; intro v3 w3 hown3 hg3 hat3; have HB3 := Lib.hid ((HB.out.alloc hsz (.cells #[.int .i64 (mvF M x)] 3)).grown hg3 (by simp; omega) (fun g hg => (HO.out.lt g hg).1)); have HO3 := Lib.hid hown3; clear hown3 hg3 hat3))
      go_roundg (n - (k + 1))
      case measure => omega
      case rel => exact ⟨k + 1, by omega, by go_num, rfl, by rw [HTK.out]; exact HO3.out, HB3.out⟩
    · have hke : k = n := by omega
      subst hke
      go_wp2
      go_ret
      have := HO.out
      rw [List.take_of_length_le (by rw [HN.out]; exact Nat.le_refl _)] at this
      exact ⟨_, rfl, this, HB.out⟩
end Go.Proofs.Ytjakckfmdfpekaa

namespace Go.Proofs.Ytjakckfmdfpekaa
open Go.RowKit

set_option maxHeartbeats 4000000 in
set_option maxRecDepth 100000 in
theorem rBinary_any (w : World) (V : CV) (C : Circ) (h : C.In w V) (_ok : C.Ok) (hz : (checkR C).2 = 0) :
    Calls Try.prog 52 #[V.val C.max] w fun e w' => e = .returned (.bool (binB C)) ∧ Below w.heap.size w w' := by
  have HRT := Lib.hid (right_of hz)
  have hm0 := HRT.out.m0
  have hm1 := HRT.out.m1
  have hb0 := (Below.refl w.heap.size w).alloc (Nat.le_refl _) (.cells (V.cells C.max) 29)
  have hbx0 := Blk.new w 29 (V.cells C.max)
  obtain ⟨AI, cI, eI, _, _, hI⟩ := h.i
  obtain ⟨AL, cL, eL, _, _, hL⟩ := h.l
  obtain ⟨AA, cA, eA, _, _, hA⟩ := h.a
  obtain ⟨Vi, Vl, Vo, Vb, Vc, Vj, Vf, Va, Vs, Vt⟩ := V
  simp only at eI eL eA
  subst eI eL eA
  obtain ⟨m, hmm⟩ : ∃ m, C.max = m := ⟨_, rfl⟩
  obtain ⟨nI, hnI⟩ : ∃ n, C.inputs.length = n := ⟨_, rfl⟩
  obtain ⟨nL, hnL⟩ : ∃ n, C.latches.length = n := ⟨_, rfl⟩
  obtain ⟨nA, hnA⟩ : ∃ n, C.ands.length = n := ⟨_, rfl⟩
  have HNI := Lib.hid hnI
  have HNL := Lib.hid hnL
  have HNA := Lib.hid hnA
  have hni : nI ≤ 16384 := by rw [← hnI]; exact HRT.out.ni
  have hnl : nL ≤ 16384 := by rw [← hnL]; exact HRT.out.nl
  have hna : nA ≤ 16384 := by rw [← hnA]; exact HRT.out.na
  have HAR := Lib.hid (fun z hz => (HRT.out.a z hz))
  obtain ⟨BB, hBB⟩ : ∃ b, binB C = b := ⟨_, rfl⟩
  have h0 : BB = (follow (2 * ((0 : Nat) : Int)) (C.inputs.drop 0) && (follow (2 * (nI : Int)) (C.latches.map (·.1)) && (andB (2 * ((nI : Int) + nL)) C.ands && decide (2 * ((nI : Int) + nL + nA) = 2 * m)))) := by
    rw [← hBB, ← hnI, ← hnL, ← hnA, ← hmm]
    rfl
  rw [hmm] at hb0 hbx0 hm0 hm1
  rw [hnI, hnL, hnA] at hb0 hbx0
  rw [hBB, hmm, hnI, hnL, hnA]
  have HB := Lib.hid hb0
  have HBX := Lib.hid hbx0
  have H0 := Lib.hid h0
  have HI := Lib.hid hI
  have HL := Lib.hid hL
  have HA := Lib.hid hA
  obtain ⟨c0, c1, c2, c3, c4, c5, c6, c7, c8, c9, c10⟩ := rbox_of hbx0
  clear h _ok hz hb0 hbx0 h0 hI hL hA hmm hnI hnL hnA hBB
  have hwm : IntKind.i64.wrap (2 * m) = 2 * m := by simp [IntKind.wrap, IntKind.bits, IntKind.signed]; omega
  have hwm2 : IntKind.i64.wrap (2 * m + 2) = 2 * m + 2 := by simp [IntKind.wrap, IntKind.bits, IntKind.signed]; omega
  go_enter Try.func52, Try.ntmps52
  go_wp2
  go_loopg [3, 4] nI (fun j nv iv wx => ∃ k : Nat, k ≤ nI ∧ iv = .int .i64 k ∧ nv = .int .i64 (2 * (k : Int) + 2) ∧ j = nI - k ∧ wx = w.alloc (.cells #[.int .i64 m, .slice AI nI cI, .slice AL nL cL, Vo, Vb, Vc, Vj, Vf, .slice AA nA cA, Vs, Vt] 29) ∧ BB = (follow (2 * (k : Int)) (C.inputs.drop k) && (follow (2 * (nI : Int)) (C.latches.map (·.1)) && (andB (2 * ((nI : Int) + nL)) C.ands && decide (2 * ((nI : Int) + nL + nA) = 2 * m)))))
  case atStart => exact ⟨0, Nat.zero_le _, rfl, rfl, rfl, rfl, H0.out⟩
  case round =>
    obtain ⟨k, hk, rfl, rfl, hgk, rfl, hall⟩ := hrel
    subst hgk
    have HALL := Lib.hid hall
    clear hall
    by_cases hlt : k < nI
    · have hx := List.getElem?_eq_getElem (l := C.inputs) (i := k) (by rw [HNI.out]; exact hlt)
      generalize C.inputs[k]'(by rw [HNI.out]; exact hlt) = x at hx
      obtain ⟨b, off, rfl, hb, hcell⟩ := HI.out k x hx
      have i0 := (HB.out.cell (p := ⟨b, off + (k * 1 + 0), none⟩) hb).trans (hcell 0 _ rfl)
      simp only [Nat.add_zero, Nat.mul_one] at i0
      have HST := Lib.hid (HALL.out.trans (by rw [follow_at hx]))
      have hk0 : (0 : Int) ≤ (k : Int) := by omega
      have hk1 : (k : Int) < (nI : Int) := by omega
      have hw1 : IntKind.i64.wrap (2 * (k : Int) + 2 + 2) = 2 * (k : Int) + 2 + 2 := by simp [IntKind.wrap, IntKind.bits, IntKind.signed]; omega
      clear hx hcell
      by_cases he : x = 2 * (k : Int) + 2
      · have q1 : (x == 2 * (k : Int) + 2) = true := by simpa using he
        have q2 : (x != 2 * (k : Int) + 2) = false := by simpa using he
        have HE := Lib.hid he
        clear he
        go_wp2
        go_roundg (nI - (k + 1))
        case measure => omega
        case rel => exact ⟨k + 1, by omega, by go_num, congrArg (Value.int .i64) (by first | omega | (push_cast; omega)), rfl, rfl, by rw [HST.out, decide_eq_true HE.out, Bool.true_and, show 2 * (k : Int) + 2 = 2 * ((k + 1 : Nat) : Int) by push_cast; omega]⟩
      · have q1 : (x == 2 * (k : Int) + 2) = false := by simpa using he
        have q2 : (x != 2 * (k : Int) + 2) = true := by simpa using he
        have HE := Lib.hid he
        clear he
        go_wp2
        go_ret
        exact ⟨ret_bool (by rw [HST.out, decide_eq_false HE.out]; rfl), HB.out⟩
    · have : k = nI := by omega
      subst this
      have HE1 := Lib.hid (HALL.out.trans (by rw [drop_all (by rw [HNI.out]; exact Nat.le_refl _), show follow (2 * (k : Int)) [] = true from rfl, Bool.true_and]))
      clear HALL
      go_wp2
      generalize k = nI at *
      go_loopg [3, 5] nL (fun j nv iv wx => ∃ k : Nat, k ≤ nL ∧ iv = .int .i64 k ∧ nv = .int .i64 (2 * ((nI : Int) + k) + 2) ∧ j = nL - k ∧ wx = w.alloc (.cells #[.int .i64 m, .slice AI nI cI, .slice AL nL cL, Vo, Vb, Vc, Vj, Vf, .slice AA nA cA, Vs, Vt] 29) ∧ BB = (follow (2 * ((nI : Int) + k)) ((C.latches.map (·.1)).drop k) && (andB (2 * ((nI : Int) + nL)) C.ands && decide (2 * ((nI : Int) + nL + nA) = 2 * m))))
      case atStart => exact ⟨0, Nat.zero_le _, rfl, congrArg (Value.int .i64) (by first | omega | (push_cast; omega)), rfl, rfl, by rw [HE1.out]; simp⟩
      case round =>
        obtain ⟨k, hk, rfl, rfl, hgk, rfl, hall⟩ := hrel
        subst hgk
        have HALL := Lib.hid hall
        clear hall
        by_cases hlt : k < nL
        · have hx := List.getElem?_eq_getElem (l := C.latches) (i := k) (by rw [HNL.out]; exact hlt)
          generalize C.latches[k]'(by rw [HNL.out]; exact hlt) = x at hx
          obtain ⟨b, off, rfl, hb, hcell⟩ := HL.out k x hx
          have i0 := (HB.out.cell (p := ⟨b, off + (k * 3 + 0), none⟩) hb).trans (hcell 0 _ rfl)
          simp only [Nat.add_zero] at i0
          obtain ⟨x0, x1, x2⟩ := x
          simp only at i0
          have hx2 : (C.latches.map (·.1))[k]? = some x0 := by rw [List.getElem?_map, hx]; rfl
          have HST := Lib.hid (HALL.out.trans (by rw [follow_at hx2]))
          have hk0 : (0 : Int) ≤ (k : Int) := by omega
          have hk1 : (k : Int) < (nL : Int) := by omega
          have hw1 : IntKind.i64.wrap (2 * ((nI : Int) + k) + 2 + 2) = 2 * ((nI : Int) + k) + 2 + 2 := by simp [IntKind.wrap, IntKind.bits, IntKind.signed]; omega
          clear hx hx2 hcell
          by_cases he : x0 = 2 * ((nI : Int) + k) + 2
          · have q1 : (x0 == 2 * ((nI : Int) + k) + 2) = true := by simpa using he
            have q2 : (x0 != 2 * ((nI : Int) + k) + 2) = false := by simpa using he
            have HE := Lib.hid he
            clear he
            go_wp2
            go_roundg (nL - (k + 1))
            case measure => omega
            case rel => exact ⟨k + 1, by omega, by go_num, congrArg (Value.int .i64) (by first | omega | (push_cast; omega)), rfl, rfl, by rw [HST.out, decide_eq_true HE.out, Bool.true_and, show 2 * ((nI : Int) + k) + 2 = 2 * ((nI : Int) + ((k + 1 : Nat) : Int)) by push_cast; omega]⟩
          · have q1 : (x0 == 2 * ((nI : Int) + k) + 2) = false := by simpa using he
            have q2 : (x0 != 2 * ((nI : Int) + k) + 2) = true := by simpa using he
            have HE := Lib.hid he
            clear he
            go_wp2
            go_ret
            exact ⟨ret_bool (by rw [HST.out, decide_eq_false HE.out]; rfl), HB.out⟩
        · have : k = nL := by omega
          subst this
          have HE2 := Lib.hid (HALL.out.trans (by rw [drop_all (by rw [List.length_map, HNL.out]; exact Nat.le_refl _), show follow (2 * ((nI : Int) + k)) [] = true from rfl, Bool.true_and]))
          clear HALL
          go_wp2
          generalize k = nL at *
          go_loopg [3, 6] nA (fun j nv iv wx => ∃ k : Nat, k ≤ nA ∧ iv = .int .i64 k ∧ nv = .int .i64 (2 * ((nI : Int) + nL + k) + 2) ∧ j = nA - k ∧ Below w.heap.size w wx ∧ Blk wx w.heap.size 29 #[.int .i64 m, .slice AI nI cI, .slice AL nL cL, Vo, Vb, Vc, Vj, Vf, .slice AA nA cA, Vs, Vt] ∧ BB = (andB (2 * ((nI : Int) + nL + k)) (C.ands.drop k) && decide (2 * ((nI : Int) + nL + nA) = 2 * m)))
          case atStart => exact ⟨0, Nat.zero_le _, rfl, congrArg (Value.int .i64) (by first | omega | (push_cast; omega)), rfl, HB.out, HBX.out, by rw [HE2.out]; simp⟩
          case round =>
            obtain ⟨k, hk, rfl, rfl, hgk, hbl, hbx, hall⟩ := hrel
            subst hgk
            have HALL := Lib.hid hall
            have HBL := Lib.hid hbl
            have HBO := Lib.hid hbx
            clear hall hbl hbx c0 c1 c2 c3 c4 c5 c6 c7 c8 c9 c10
            obtain ⟨c0, c1, c2, c3, c4, c5, c6, c7, c8, c9, c10⟩ := rbox_of HBO.out
            by_cases hlt : k < nA
            · have hx := List.getElem?_eq_getElem (l := C.ands) (i := k) (by rw [HNA.out]; exact hlt)
              generalize C.ands[k]'(by rw [HNA.out]; exact hlt) = x at hx
              obtain ⟨b, off, rfl, hb, hcell⟩ := HA.out k x hx
              obtain ⟨x0, x1, x2⟩ := x
              have i0 := (HBL.out.cell (p := ⟨b, off + (k * 3 + 0), none⟩) hb).trans (hcell 0 _ rfl)
              have i1 := (HBL.out.cell (p := ⟨b, off + (k * 3 + 1), none⟩) hb).trans (hcell 1 _ rfl)
              have i2 := (HBL.out.cell (p := ⟨b, off + (k * 3 + 2), none⟩) hb).trans (hcell 2 _ rfl)
              simp only [Nat.add_zero, ← Nat.add_assoc] at i0 i1 i2
              have HST := Lib.hid (HALL.out.trans (by rw [andB_at hx]))
              have hk0 : (0 : Int) ≤ (k : Int) := by omega
              have hk1 : (k : Int) < (nA : Int) := by omega
              have hw1 : IntKind.i64.wrap (2 * ((nI : Int) + nL + k) + 2 + 2) = 2 * ((nI : Int) + nL + k) + 2 + 2 := by simp [IntKind.wrap, IntKind.bits, IntKind.signed]; omega
              have HBN := Lib.hid (HBL.out.alloc HBL.out.size (.cells #[.int .i64 x0, .int .i64 x1, .int .i64 x2] 49))
              have HBON := Lib.hid (HBO.out.alloc (.cells #[.int .i64 x0, .int .i64 x1, .int .i64 x2] 49))
              clear hx hcell
              by_cases he : x0 = 2 * ((nI : Int) + nL + k) + 2
              · have q1 : (x0 == 2 * ((nI : Int) + nL + k) + 2) = true := by simpa using he
                have q2 : (x0 != 2 * ((nI : Int) + nL + k) + 2) = false := by simpa using he
                have HE := Lib.hid he
                clear he
                by_cases g1 : x0 ≤ x1
                · have HG : Hid (decide (x1 < x0) = false) := Lib.hid (decide_eq_false (by omega))
                  go_wp2
                  go_ret
                  exact ⟨ret_bool (by rw [HST.out]; simp only [HG.out, Bool.false_and, Bool.and_false]), HBN.out⟩
                · have g2 : decide (x0 ≤ x1) = false := decide_eq_false g1
                  have HG := Lib.hid (show x1 < x0 by omega)
                  by_cases g3 : x1 < x2
                  · have HG3 : Hid (decide (x2 ≤ x1) = false) := Lib.hid (decide_eq_false (by omega))
                    go_wp2
                    go_ret
                    exact ⟨ret_bool (by rw [HST.out]; simp only [HG3.out, Bool.false_and, Bool.and_false]), HBN.out⟩
                  · have g4 : decide (x1 < x2) = false := decide_eq_false g3
                    have HG3 := Lib.hid (show x2 ≤ x1 by omega)
                    go_wp2
                    go_roundg (nA - (k + 1))
                    case measure => omega
                    case rel => first
                      | exact ⟨k + 1, by omega, by go_num, congrArg (Value.int .i64) (by first | omega | (push_cast; omega)), rfl, HBN.out, HBON.out, by rw [HST.out]; simp only [decide_eq_true HE.out, decide_eq_true HG.out, decide_eq_true HG3.out, Bool.true_and]; rw [show 2 * ((nI : Int) + nL + k) + 2 = 2 * ((nI : Int) + nL + ((k + 1 : Nat) : Int)) by push_cast; omega]⟩
                      | ((repeat apply Exists.intro); exact ⟨⟨k + 1, by omega, by go_num, congrArg (Value.int .i64) (by first | omega | (push_cast; omega)), rfl, HBN.out, HBON.out, by rw [HST.out]; simp only [decide_eq_true HE.out, decide_eq_true HG.out, decide_eq_true HG3.out, Bool.true_and]; rw [show 2 * ((nI : Int) + nL + k) + 2 = 2 * ((nI : Int) + nL + ((k + 1 : Nat) : Int)) by push_cast; omega]⟩, rfl⟩)
              · have q1 : (x0 == 2 * ((nI : Int) + nL + k) + 2) = false := by simpa using he
                have q2 : (x0 != 2 * ((nI : Int) + nL + k) + 2) = true := by simpa using he
                have HE := Lib.hid he
                clear he
                go_wp2
                go_ret
                exact ⟨ret_bool (by rw [HST.out, decide_eq_false HE.out]; rfl), HBN.out⟩
            · have : k = nA := by omega
              subst this
              have HE3 := Lib.hid (HALL.out.trans (by rw [drop_all (by rw [HNA.out]; exact Nat.le_refl _), show andB (2 * ((nI : Int) + nL + k)) [] = true from rfl, Bool.true_and]))
              clear HALL
              go_wp2
              go_ret
              refine ⟨ret_bool ?_, HBL.out⟩
              rw [HE3.out, Bool.eq_iff_iff]
              simp
set_option maxHeartbeats 1000000 in
set_option maxRecDepth 100000 in
theorem rIsBinary_any (w : World) (V : CV) (C : Circ) (h : C.In w V) (ok : C.Ok) (htn : ∀ s ∈ C.comments, s.size ≤ maxLen) :
    Calls Try.prog 21 #[V.val C.max] w fun e w' => e = .returned (.tuple #[.bool (decide ((checkR C).2 = 0) && binB C), .int .i64 (checkR C).2]) ∧ Below w.heap.size w w' := by
  have HB := Lib.hid ((Below.refl w.heap.size w).alloc (Nat.le_refl _) (.cells (V.cells C.max) 29))
  have hin := h.below HB.out
  have hck := rCheck_any _ V C hin ok htn
  obtain ⟨a, r, hr⟩ : ∃ a r, checkR C = (a, r) := ⟨_, _, rfl⟩
  have HRR := Lib.hid hr
  obtain ⟨m, hmm⟩ : ∃ m, C.max = m := ⟨_, rfl⟩
  have HMM := Lib.hid hmm
  have HBIN := Lib.hid (fun (wx : World) (hx : C.In wx V) (h0 : (checkR C).2 = 0) => rBinary_any wx V C hx ok h0)
  rw [hmm] at HBIN
  obtain ⟨Vi, Vl, Vo, Vb, Vc, Vj, Vf, Va, Vs, Vt⟩ := V
  rw [hr, hmm] at hck
  rw [hmm] at hin HB
  rw [hr]
  have HCK := Lib.hid hck
  have HIN := Lib.hid hin
  rw [hmm]
  simp only
  have HBX : Hid (Blk (w.alloc (.cells #[.int .i64 m, Vi, Vl, Vo, Vb, Vc, Vj, Vf, Va, Vs, Vt] 29)) w.heap.size 29 #[.int .i64 m, Vi, Vl, Vo, Vb, Vc, Vj, Vf, Va, Vs, Vt]) := Lib.hid (Blk.new _ _ _)
  obtain ⟨c0, c1, c2, c3, c4, c5, c6, c7, c8, c9, c10⟩ := rbox_of HBX.out
  clear hck hin h ok hr hmm
  by_cases h0 : r = 0
  · subst h0
    have HR0 : Hid ((checkR C).2 = 0) := Lib.hid (by rw [HRR.out])
    go_enter Try.func21, Try.ntmps21
    go_wp2_with (first
      | (go_at_call 11; refine HCK.out.mono ?_; rintro e w1 ⟨rfl, hb1⟩; have HB1 := Lib.hid hb1; have HH := Lib.hid ((HB.out.trans (HB1.out.mono (by simp))).size); clear c0 c1 c2 c3 c4 c5 c6 c7 c8 c9 c10; obtain ⟨c0, c1, c2, c3, c4, c5, c6, c7, c8, c9, c10⟩ := rbox_of (HBX.out.below hb1 HBX.out.lt); clear hb1)
      | (go_at_call 52; refine (HBIN.out w1 (HIN.out.below HB1.out) HR0.out).mono ?_; rintro e w3 ⟨rfl, hb3⟩; have HB3 := Lib.hid hb3; clear hb3))
    go_ret2
    exact ⟨by simp, (HB.out.trans (HB1.out.mono (by simp))).trans (HB3.out.mono HH.out)⟩
  · have hq : (r != 0) = true := by simpa using h0
    have H0 := Lib.hid h0
    clear h0
    go_enter Try.func21, Try.ntmps21
    go_wp2_with (go_at_call 11; refine HCK.out.mono ?_; rintro e w1 ⟨rfl, hb1⟩; have HB1 := Lib.hid hb1; clear hb1)
    go_ret2
    exact ⟨by rw [decide_eq_false H0.out]; rfl, HB.out.trans (HB1.out.mono (by simp))⟩
end Go.Proofs.Ytjakckfmdfpekaa

namespace Go.Proofs.Ytjakckfmdfpekaa
open Go.RowKit

theorem own_far {w : World} {B k n g : Nat} {t t' : TypeId} {v : Value} {xs : List Value} {cs : Array Value} (h : w.ownsRow B t k v n xs) (hb : Blk w g t' cs) (ht : t ≠ t') (i : Nat) (u : Value) : (w.setCell ⟨g, i, none⟩ u).ownsRow B t k v n xs :=
  own_of_block h fun g2 hg2 => Below.heap_setCell _ _ _ _ (fun e => own_blk_ne h hb ht (by rw [hg2, e]))
theorem own_set1 {w : World} {B n cap g q : Nat} {t : TypeId} {xs : List Value} (h : w.ownsRow B t 1 (.slice (some ⟨g, 0, none⟩) n cap) n xs) (hq : q < n) (u : Value) :
    B ≤ g ∧ (∃ cs, Blk w g t cs) ∧ (∀ i, w.frozen? ⟨g, i, none⟩ = false) ∧ w.cell? ⟨g, q, none⟩ = xs[q]? ∧ (w.setCell ⟨g, q, none⟩ u).ownsRow B t 1 (.slice (some ⟨g, 0, none⟩) n cap) n (xs.set q u) := by
  have hl := h.1
  rcases h.2 with ⟨hv, hn0⟩ | ⟨g', cap', cur, hv, hB, hh, h1, h2, h3, h4⟩
  · omega
  · injection hv with e1 e2 e3
    injection e1 with e1
    injection e1 with e1
    subst e1 e3
    have hb : Blk w g t cur := hh
    refine ⟨hB, ⟨cur, hb⟩, fun i => hb.frozen i, ?_, by simpa using hl, .inr ⟨g, cap, cur.setIfInBounds q u, rfl, hB, Blk.set_ hb q u, h1, h2, by simpa using h3, ?_⟩⟩
    · rw [hb.cell, ← h4, List.getElem?_take, if_pos (by omega), Array.getElem?_toList]
    · rw [Array.toList_setIfInBounds, ← h4, List.take_set]
/-- What memory holds while the document's own Renumber writes. -/
structure RR (w0 wx : World) (Bc gm bo : Nat) (OUT : Array Value) (M : List Int) (V : CV) (I : List Int) (LL AA : List Tri) (C : Circ) (us : List Value) : Prop where
  below : Below w0.heap.size w0 wx
  w0l : w0.heap.size ≤ gm
  gml : gm < Bc
  bol : Bc ≤ bo
  nums : Nums wx gm M
  box : Blk wx bo 29 OUT
  i : wx.ownsRow Bc 3 1 V.i I.length (I.map (Value.int .i64))
  l : wx.ownsRow Bc 52 3 V.l LL.length (LL.flatMap encT)
  a : wx.ownsRow Bc 49 3 V.a AA.length (AA.flatMap encT)
  j : wx.ownsRow Bc 22 1 V.j us.length us
  s : wx.ownsRow Bc 78 3 V.s C.symbols.length (C.symbols.flatMap encS)
  t : wx.ownsRow Bc 9 1 V.t C.comments.length (C.comments.flatMap encB)
section
variable {w0 wx : World} {Bc gm bo : Nat} {OUT : Array Value} {M : List Int} {V : CV} {I : List Int} {LL AA : List Tri} {C : Circ} {us : List Value}
theorem RR.out_ (h : RR w0 wx Bc gm bo OUT M V I LL AA C us) {w' : World} (hb : Below w0.heap.size w0 w') (hk : ∀ g, w0.heap.size ≤ g → g < wx.heap.size → w'.heap[g]? = wx.heap[g]?) : RR w0 w' Bc gm bo OUT M V I LL AA C us := by
  have h0 := h.w0l
  have h1 := h.gml
  have h2 := h.bol
  have ho : ∀ {t : TypeId} {k n : Nat} {v : Value} {xs : List Value}, wx.ownsRow Bc t k v n xs → w'.ownsRow Bc t k v n xs := fun hr =>
    own_of_block hr fun g hg => by
      have := hr.lt g hg
      exact hk g (by omega) this.2
  exact ⟨hb, h0, h1, h2, (hk _ h0 (Blk.lt h.nums)).trans h.nums, (hk _ (by omega) (Blk.lt h.box)).trans h.box, ho h.i, ho h.l, ho h.a, ho h.j, ho h.s, ho h.t⟩
theorem RR.on (h : RR w0 wx Bc gm bo OUT M V I LL AA C us) {w' : World} (hb : Below wx.heap.size wx w') : RR w0 w' Bc gm bo OUT M V I LL AA C us :=
  h.out_ (h.below.trans (hb.mono h.below.size)) fun g _ hg => hb.block g hg
theorem RR.alloc (h : RR w0 wx Bc gm bo OUT M V I LL AA C us) (o : Obj) : RR w0 (wx.alloc o) Bc gm bo OUT M V I LL AA C us := h.on ((Below.refl _ _).alloc (Nat.le_refl _) o)
theorem RR.drew (h : RR w0 wx Bc gm bo OUT M V I LL AA C us) : RR w0 wx.drew Bc gm bo OUT M V I LL AA C us := h.out_ h.below.drew fun _ _ _ => rfl
theorem RR.drewN (h : RR w0 wx Bc gm bo OUT M V I LL AA C us) (k : Nat) : RR w0 (wx.drewN k) Bc gm bo OUT M V I LL AA C us := h.out_ (below_drewN h.below k) fun _ _ _ => rfl
theorem RR.setM (h : RR w0 wx Bc gm bo OUT M V I LL AA C us) (q : Nat) (x : Int) : RR w0 (wx.setCell ⟨gm, q, none⟩ (.int .i64 x)) Bc gm bo OUT (M.set q x) V I LL AA C us := by
  have h1 := h.gml
  have h2 := h.bol
  have ho : ∀ {t : TypeId} {k n : Nat} {v : Value} {xs : List Value}, wx.ownsRow Bc t k v n xs → (wx.setCell ⟨gm, q, none⟩ (.int .i64 x)).ownsRow Bc t k v n xs := fun hr =>
    own_of_block hr fun g hg => by
      have := hr.lt g hg
      exact Below.heap_setCell _ _ _ _ (by simp; omega)
  exact ⟨h.below.setCell h.w0l _, h.w0l, h1, h2, Nums.set_ h.nums q x, Blk.far h.box (by simp; omega) _, ho h.i, ho h.l, ho h.a, ho h.j, ho h.s, ho h.t⟩
theorem RR.setI (h : RR w0 wx Bc gm bo OUT M V I LL AA C us) {g N cap q : Nat} (hV : V.i = .slice (some ⟨g, 0, none⟩) N cap) (hq : q < I.length) (x : Int) :
    RR w0 (wx.setCell ⟨g, q, none⟩ (.int .i64 x)) Bc gm bo OUT M V (I.set q x) LL AA C us := by
  have h1 := h.gml
  have h0 := h.w0l
  have hi := h.i
  rw [hV] at hi
  have hN : N = I.length := by
    rcases hi.2 with ⟨hv, _⟩ | ⟨g', cap', cur, hv, _⟩
    · cases hv
    · injection hv
  rw [hN] at hi
  obtain ⟨hB, ⟨cs, hb⟩, _, _, hset⟩ := own_set1 hi hq (.int .i64 x)
  refine ⟨h.below.setCell (by simp; omega) _, h0, h1, h.bol, Blk.far h.nums (by simp; omega) _, Blk.far h.box (fun e => h.box.ne_ hb (by decide) e) _, ?_, own_far h.l hb (by decide) _ _, own_far h.a hb (by decide) _ _, own_far h.j hb (by decide) _ _, own_far h.s hb (by decide) _ _, own_far h.t hb (by decide) _ _⟩
  rw [hV, hN, List.length_set, List.map_set]
  exact hset
theorem RR.setJ (h : RR w0 wx Bc gm bo OUT M V I LL AA C us) {g N cap q : Nat} (hV : V.j = .slice (some ⟨g, 0, none⟩) N cap) (hq : q < us.length) (x : Value) :
    RR w0 (wx.setCell ⟨g, q, none⟩ x) Bc gm bo OUT M V I LL AA C (us.set q x) := by
  have h1 := h.gml
  have h0 := h.w0l
  have hi := h.j
  rw [hV] at hi
  have hN : N = us.length := by
    rcases hi.2 with ⟨hv, _⟩ | ⟨g', cap', cur, hv, _⟩
    · cases hv
    · injection hv
  rw [hN] at hi
  obtain ⟨hB, ⟨cs, hb⟩, _, _, hset⟩ := own_set1 hi hq x
  refine ⟨h.below.setCell (by simp; omega) _, h0, h1, h.bol, Blk.far h.nums (by simp; omega) _, Blk.far h.box (fun e => h.box.ne_ hb (by decide) e) _, own_far h.i hb (by decide) _ _, own_far h.l hb (by decide) _ _, own_far h.a hb (by decide) _ _, ?_, own_far h.s hb (by decide) _ _, own_far h.t hb (by decide) _ _⟩
  rw [hV, hN, List.length_set]
  exact hset
theorem RR.setB (h : RR w0 wx Bc gm bo OUT M V I LL AA C us) (k : Nat) (u : Value) : RR w0 (wx.setCell ⟨bo, k, none⟩ u) Bc gm bo (OUT.setIfInBounds k u) M V I LL AA C us := by
  have h1 := h.gml
  have h0 := h.w0l
  have h2 := h.bol
  have hb := h.box
  exact ⟨h.below.setCell (by simp; omega) _, h0, h1, h2, Blk.far h.nums (by simp; omega) _, Blk.set_ hb k u, own_far h.i hb (by decide) _ _, own_far h.l hb (by decide) _ _, own_far h.a hb (by decide) _ _, own_far h.j hb (by decide) _ _, own_far h.s hb (by decide) _ _, own_far h.t hb (by decide) _ _⟩
theorem RR.setL (h : RR w0 wx Bc gm bo OUT M V I LL AA C us) {g N cap q : Nat} (hV : V.l = .slice (some ⟨g, 0, none⟩) N cap) (hq : q < LL.length) (z : Tri) :
    RR w0 (((wx.setCell ⟨g, q * 3, none⟩ (.int .i64 z.1)).setCell ⟨g, q * 3 + 1, none⟩ (.int .i64 z.2.1)).setCell ⟨g, q * 3 + 2, none⟩ (.int .i64 z.2.2)) Bc gm bo OUT M V I (LL.set q z) AA C us := by
  have h1 := h.gml
  have h0 := h.w0l
  obtain ⟨g', cap', hv, hB, _, ⟨cs, hblk⟩, _, _, hset⟩ := own_cells3 h.l (by omega)
  rw [hV] at hv
  injection hv with e1 e2 e3
  injection e1 with e1
  injection e1 with e1
  subst e1
  have hoth : ∀ k, k ≠ g → (((wx.setCell ⟨g, q * 3, none⟩ (.int .i64 z.1)).setCell ⟨g, q * 3 + 1, none⟩ (.int .i64 z.2.1)).setCell ⟨g, q * 3 + 2, none⟩ (.int .i64 z.2.2)).heap[k]? = wx.heap[k]? := fun k hk =>
    (Below.heap_setCell _ _ _ _ hk).trans ((Below.heap_setCell _ _ _ _ hk).trans (Below.heap_setCell _ _ _ _ hk))
  have hk2 : ∀ {t : TypeId} {k' n B : Nat} {v : Value} {xs : List Value}, wx.ownsRow B t k' v n xs → t ≠ 52 → (((wx.setCell ⟨g, q * 3, none⟩ (.int .i64 z.1)).setCell ⟨g, q * 3 + 1, none⟩ (.int .i64 z.2.1)).setCell ⟨g, q * 3 + 2, none⟩ (.int .i64 z.2.2)).ownsRow B t k' v n xs := fun ho ht =>
    own_of_block ho fun g2 hg2 => hoth _ (fun e => own_blk_ne ho hblk ht (by rw [hg2, e]))
  refine ⟨((h.below.setCell (by simp; omega) _).setCell (by simp; omega) _).setCell (by simp; omega) _, h0, h1, h.bol, (hoth _ (by omega)).trans h.nums, (hoth _ (fun e => h.box.ne_ hblk (by decide) e)).trans h.box, hk2 h.i (by decide), ?_, hk2 h.a (by decide), hk2 h.j (by decide), hk2 h.s (by decide), hk2 h.t (by decide)⟩
  rw [List.length_set]
  exact hset q hq z
theorem RR.setA (h : RR w0 wx Bc gm bo OUT M V I LL AA C us) {g N cap q : Nat} (hV : V.a = .slice (some ⟨g, 0, none⟩) N cap) (hq : q < AA.length) (z : Tri) :
    RR w0 (((wx.setCell ⟨g, q * 3, none⟩ (.int .i64 z.1)).setCell ⟨g, q * 3 + 1, none⟩ (.int .i64 z.2.1)).setCell ⟨g, q * 3 + 2, none⟩ (.int .i64 z.2.2)) Bc gm bo OUT M V I LL (AA.set q z) C us := by
  have h1 := h.gml
  have h0 := h.w0l
  obtain ⟨g', cap', hv, hB, _, ⟨cs, hblk⟩, _, _, hset⟩ := own_cells3 h.a (by omega)
  rw [hV] at hv
  injection hv with e1 e2 e3
  injection e1 with e1
  injection e1 with e1
  subst e1
  have hoth : ∀ k, k ≠ g → (((wx.setCell ⟨g, q * 3, none⟩ (.int .i64 z.1)).setCell ⟨g, q * 3 + 1, none⟩ (.int .i64 z.2.1)).setCell ⟨g, q * 3 + 2, none⟩ (.int .i64 z.2.2)).heap[k]? = wx.heap[k]? := fun k hk =>
    (Below.heap_setCell _ _ _ _ hk).trans ((Below.heap_setCell _ _ _ _ hk).trans (Below.heap_setCell _ _ _ _ hk))
  have hk2 : ∀ {t : TypeId} {k' n B : Nat} {v : Value} {xs : List Value}, wx.ownsRow B t k' v n xs → t ≠ 49 → (((wx.setCell ⟨g, q * 3, none⟩ (.int .i64 z.1)).setCell ⟨g, q * 3 + 1, none⟩ (.int .i64 z.2.1)).setCell ⟨g, q * 3 + 2, none⟩ (.int .i64 z.2.2)).ownsRow B t k' v n xs := fun ho ht =>
    own_of_block ho fun g2 hg2 => hoth _ (fun e => own_blk_ne ho hblk ht (by rw [hg2, e]))
  refine ⟨((h.below.setCell (by simp; omega) _).setCell (by simp; omega) _).setCell (by simp; omega) _, h0, h1, h.bol, (hoth _ (by omega)).trans h.nums, (hoth _ (fun e => h.box.ne_ hblk (by decide) e)).trans h.box, hk2 h.i (by decide), hk2 h.l (by decide), ?_, hk2 h.j (by decide), hk2 h.s (by decide), hk2 h.t (by decide)⟩
  rw [List.length_set]
  exact hset q hq z
end
/-- The first even numbers. -/
def evs (k : Nat) : List Int := (List.range k).map (fun (i : Nat) => 2 * ((i : Int) + 1))
theorem evs_len (k : Nat) : (evs k).length = k := by simp [evs]
theorem evs_succ (k : Nat) : evs (k + 1) = evs k ++ [2 * ((k : Int) + 1)] := by simp [evs, List.range_succ]
theorem evs_set {L : List Int} {k : Nat} (hk : k < L.length) : (evs k ++ L.drop k).set k (2 * ((k : Int) + 1)) = evs (k + 1) ++ L.drop (k + 1) := by
  rw [List.drop_eq_getElem_cons hk, evs_succ, List.append_assoc]
  have := set_midR (evs k) L[k] (2 * ((k : Int) + 1)) (L.drop (k + 1))
  rw [evs_len] at this
  rw [this]
  rfl
theorem numF_app (xs : List Int) (l : Int) (n : Nat) : (numF (xs ++ [l]) (0, List.replicate n 0)).2 = (numF xs (0, List.replicate n 0)).2.set (l / 2).toNat (2 * (xs.length : Int) + 2) := by
  unfold numF
  rw [List.foldl_append]
  have h := (numF_len xs (0, List.replicate n 0)).2
  unfold numF at h
  simp only [List.foldl_cons, List.foldl_nil]
  rw [h]
  simp
theorem evs_inputs {C : Circ} {out : List Int} (h : NewL C out) : evs C.inputs.length = C.inputs.map (mvF (newM C out)) := by
  apply List.ext_getElem?
  intro k
  by_cases hk : k < C.inputs.length
  · have hl : (linesL C out)[k]? = some C.inputs[k] := by
      unfold linesL
      rw [List.append_assoc, List.getElem?_append_left hk]
      exact List.getElem?_eq_getElem hk
    rw [List.getElem?_map, List.getElem?_eq_getElem hk]
    show _ = some (mvF (newM C out) C.inputs[k])
    rw [mv_def h hl]
    simp [evs, hk]
  · rw [List.getElem?_eq_none (by rw [evs_len]; omega), List.getElem?_eq_none (by simp; omega)]
end Go.Proofs.Ytjakckfmdfpekaa

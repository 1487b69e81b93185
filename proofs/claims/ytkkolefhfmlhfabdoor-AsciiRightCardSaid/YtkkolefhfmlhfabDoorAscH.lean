/- Ascii: gates. -/
import Derived.Test.YtkkolefhfmlhfabDoorAscG
namespace Go.Proofs.YtkkolefhfmlhfabDoor
open Go.RowKit

theorem gb_drew {w w1 : World} {row : Option Nat} (h : w.grownBy w1 row) : w.grownBy w1.drew row := ⟨h.os, h.tape, h.output, h.size, h.block⟩
/-- What latches and gates answer. -/
def TriAns (t : TypeId) (w : World) (b : Nat) (s : Bs) (q : Rs (List (Nat × Nat × Nat))) (e : Ending) (w' : World) : Prop := match q with
  | .error k => e = pan ((s.length - k : Nat) : Int) 42
  | .ok (zs, r) => ∃ g l, e = .returned (.slice (some ⟨g, 0, none⟩) zs.length zs.length) ∧ w.heap.size ≤ g ∧ TrP t w' g (zs.map triA) ∧ Rd w' b s (s.length - r.length) l
theorem gate_err {m k : Nat} {r : Bs} (h : rowA 3 3 r = .error k) : gateA (m + 1) r = .error k := by unfold gateA; rw [h]
theorem gate_ok {m x y z : Nat} {r r' : Bs} (h : rowA 3 3 r = .ok ([x, y, z], r')) : gateA (m + 1) r = glueA [(x, y, z)] (gateA m r') := by
  have e : gateA (m + 1) r = match gateA m r' with
      | .error k => .error k
      | .ok (xs, r'') => .ok ((x, y, z) :: xs, r'') := by
    conv => lhs; unfold gateA
    rw [h]
    rfl
  rw [e]
  cases gateA m r' with
  | error k => rfl
  | ok y => rfl
theorem three_of {ns : List Nat} (h1 : 3 ≤ ns.length) (h2 : ns.length ≤ 3) : ∃ x y z, ns = [x, y, z] := by
  match ns with
  | [] => simp at h1
  | [_] => simp at h1
  | [_, _] => simp at h1
  | [x, y, z] => exact ⟨x, y, z, rfl⟩
  | _ :: _ :: _ :: _ :: _ => simp at h2
set_option maxHeartbeats 4000000 in
set_option maxRecDepth 100000 in
theorem gates_any (w : World) (B b : Nat) (s : Bs) (p l n : Nat) (h : Rd w b s p l) (hp : p ≤ s.length) (hs : s.length ≤ 262144) (hn : n ≤ 100000) (lib : LibB B w) (hB : B ≤ b) :
    Calls Tryd.prog 59 #[.pointer (some ⟨b, 0, none⟩), .int .i64 n] w fun e w' => w.grownBy w' (some b) ∧ TriAns 84 w b s (gateA n (s.drop p)) e w' := by
  have hlt : b < w.heap.size := Blk.lt h
  have HLB := Lib.hid lib
  have HRD0 := Lib.hid h
  obtain ⟨q, hq⟩ : ∃ q, gateA n (s.drop p) = q := ⟨_, rfl⟩
  rw [hq]
  have HQ0 : Hid (q = glueA [] (gateA n (s.drop p))) := Lib.hid (by rw [glue_nil, hq])
  have hmk := make_gatA n (by omega)
  have HG2 : Hid (w.grownBy (w.alloc (.cells (madeCells #[Value.int .i64 0, Value.int .i64 0, Value.int .i64 0] (n * 3)) 84)) (some b)) := Lib.hid (gb_of ((Below.refl _ _).alloc (Nat.le_refl _) _))
  have HP2 : Hid (TrP 84 (w.alloc (.cells (madeCells #[Value.int .i64 0, Value.int .i64 0, Value.int .i64 0] (n * 3)) 84)) w.heap.size (List.replicate n (0, 0, 0))) := Lib.hid (new_tris w n)
  have HR2 : Hid (Rd (w.alloc (.cells (madeCells #[Value.int .i64 0, Value.int .i64 0, Value.int .i64 0] (n * 3)) 84)) b s p l) := Lib.hid (Blk.alloc h _)
  clear h lib hq
  go_enter Tryd.func59, Tryd.ntmps59
  go_wp2
  generalize w.alloc (.cells (madeCells #[Value.int .i64 0, Value.int .i64 0, Value.int .i64 0] (n * 3)) 84) = W2 at HG2 HP2 HR2 ⊢
  obtain ⟨g, hg1⟩ : ∃ g, w.heap.size = g := ⟨_, rfl⟩
  rw [hg1] at HP2 hlt ⊢
  have HGE := Lib.hid hg1
  clear hg1 hmk
  go_loopg [12] n (fun j iv wx => ∃ (k pk lk : Nat) (xs : List (Nat × Nat × Nat)), k ≤ n ∧ j = n - k ∧ iv = .int .i64 k ∧ pk ≤ s.length ∧ Rd wx b s pk lk ∧ xs.length = k ∧ TrP 84 wx g (xs.map triA ++ List.replicate (n - k) (0, 0, 0)) ∧ q = glueA xs (gateA (n - k) (s.drop pk)) ∧ w.grownBy wx (some b))
  case atStart => exact ⟨0, p, l, [], Nat.zero_le _, rfl, rfl, hp, HR2.out, rfl, HP2.out, HQ0.out, HG2.out⟩
  case round =>
    clear HP2 HR2 HG2 HRD0 HQ0
    obtain ⟨k, pk, lk, xs, hk, hgk, rfl, hpk, hrd, hxl, hnu, hqq, hgb⟩ := hrel
    subst hgk
    have HRD := Lib.hid hrd
    have HXL := Lib.hid hxl
    have HNU := Lib.hid hnu
    have HQ := Lib.hid hqq
    have HGB := Lib.hid hgb
    clear hrd hxl hnu hqq hgb
    by_cases hkn : k < n
    · have hk0 : (0 : Int) ≤ (k : Int) := by omega
      have hk1 : (k : Int) < (n : Int) := by omega
      have HNB := Lib.hid (numbers_any wr B b s pk lk 3 3 HRD.out hpk hs (by omega) (by omega) (HLB.out.on (gb_to HGB.out hB (by rw [HGE.out]; omega))) hB)
      have hsz : w.heap.size ≤ wr.heap.size := HGB.out.size
      cases hr : rowA 3 3 (s.drop pk) with
      | error kk =>
        rw [hr] at HNB
        have HE : Hid (q = .error kk) := Lib.hid (by
          rw [HQ.out, show n - k = (n - (k + 1)) + 1 by omega, gate_err hr]
          rfl)
        clear hr HQ
        go_wp2_with (go_at_call 75; refine HNB.out.mono ?_; rintro e w1 ⟨hg, he⟩; have he2 : e = pan ((s.length - kk : Nat) : Int) 42 := he; subst he2; have HG := Lib.hid (gb_trans HGB.out hg); clear hg he)
        refine ⟨rfl, HG.out, ?_⟩
        rw [HE.out]
        rfl
      | ok y =>
        obtain ⟨ns, r⟩ := y
        obtain ⟨hd, hrl, hp2, h1, h2, hle⟩ := rowA_ok hr
        obtain ⟨x, y, z, rfl⟩ := three_of h1 h2
        rw [hr] at HNB
        have HQ5 : Hid (q = glueA (xs ++ [(x, y, z)]) (gateA (n - (k + 1)) (s.drop (s.length - r.length)))) := Lib.hid (by
          rw [HQ.out, show n - k = (n - (k + 1)) + 1 by omega, gate_ok hr, glue_glue, hd])
        clear hr hle h1 h2 hd HQ
        go_upto_region 6 with (go_at_call 75; refine HNB.out.mono ?_; rintro e w1 ⟨hg, he⟩; obtain ⟨g2, l2, hl2, rfl, hg2, hnu2, hrd2⟩ := he; have HG := Lib.hid hg; have HRD2 := Lib.hid hrd2; have HGG : Hid (g < g2) := Lib.hid (by rw [← HGE.out]; have := Blk.lt HNU.out; rw [← HGE.out] at this; omega); have c5 : w1.cell? ⟨g2, 0, none⟩ = some (.int .i64 (x : Int)) := hnu2.cell (by simp [intsA]); have c6 : w1.cell? ⟨g2, 1, none⟩ = some (.int .i64 (y : Int)) := hnu2.cell (by simp [intsA]); have c7 : w1.cell? ⟨g2, 2, none⟩ = some (.int .i64 (z : Int)) := hnu2.cell (by simp [intsA]); have hnu3 : TrP 84 w1 g (xs.map triA ++ List.replicate (n - k) (0, 0, 0)) := (hg.block g (Blk.lt HNU.out) (fun e => by injection e with e; omega)).trans HNU.out; have HNU3 := Lib.hid hnu3; clear hg hnu2 hrd2 hnu3 hl2)
        have hat : (xs.map triA ++ List.replicate (n - k) ((0 : Int), (0 : Int), (0 : Int)))[k]? = some (0, 0, 0) := by
          rw [List.getElem?_append_right (by simp [HXL.out]), List.getElem?_replicate, if_pos (by simp [HXL.out]; omega)]
        obtain ⟨a0, a1, a2⟩ := HNU3.out.cell hat
        have f0 : w1.frozen? ⟨g, k * 3, none⟩ = false := Blk.frozen HNU3.out _
        have f1 : w1.frozen? ⟨g, k * 3 + 1, none⟩ = false := Blk.frozen HNU3.out _
        have f2 : w1.frozen? ⟨g, k * 3 + 2, none⟩ = false := Blk.frozen HNU3.out _
        go_region
        obtain ⟨W5, hW5⟩ : ∃ W5, (((w1.setCell ⟨g, k * 3, none⟩ (.int .i64 (x : Int))).setCell ⟨g, k * 3 + 1, none⟩ (.int .i64 (y : Int))).setCell ⟨g, k * 3 + 2, none⟩ (.int .i64 (z : Int))).drew = W5 := ⟨_, rfl⟩
        rw [hW5]
        have HNU5 : Hid (TrP 84 W5 g ((xs ++ [(x, y, z)]).map triA ++ List.replicate (n - (k + 1)) (0, 0, 0))) := Lib.hid (by
          have h9 := HNU3.out.set_ (List.getElem?_eq_some_iff.1 hat).1 (triA (x, y, z))
          have e9 : (xs.map triA ++ List.replicate (n - k) ((0 : Int), (0 : Int), (0 : Int))).set k (triA (x, y, z)) = (xs ++ [(x, y, z)]).map triA ++ List.replicate (n - (k + 1)) (0, 0, 0) := by
            rw [show n - k = (n - (k + 1)) + 1 by omega, List.replicate_succ]
            have hl9 : (xs.map triA).length = k := by simp [HXL.out]
            rw [List.set_append_right _ _ (by omega), hl9, Nat.sub_self]
            simp
          rw [e9] at h9
          rw [← hW5]
          exact h9)
        have hgb5 : w1.grownBy W5 (some g) := by rw [← hW5]; exact gb_drew (gb_set (gb_set (gb_set (World.grownBy.refl w1 (some g)) _ _) _ _) _ _)
        have HRD5 : Hid (Rd W5 b s (s.length - r.length) l2) := Lib.hid (by
          have h9 := HRD2.out
          exact (hgb5.block b (Blk.lt h9) (fun e => by injection e with e; omega)).trans h9)
        have HG5 : Hid (w.grownBy W5 (some b)) := Lib.hid (by
          have h9 := gb_trans HGB.out HG.out
          refine ⟨hgb5.os.trans h9.os, hgb5.tape.trans h9.tape, hgb5.output.trans h9.output, Nat.le_trans h9.size hgb5.size, fun k9 hk9 hne => ?_⟩
          exact (hgb5.block k9 (Nat.lt_of_lt_of_le hk9 h9.size) (fun e => by injection e with e; have := HGE.out; omega)).trans (h9.block k9 hk9 hne))
        have HXL2 : Hid ((xs ++ [(x, y, z)]).length = k + 1) := Lib.hid (by simp [HXL.out])
        clear a0 a1 a2 f0 f1 f2 c5 c6 c7 hat hgb5 hW5 HNU3 HRD2 HG HNB
        go_wp2
        go_roundg (n - (k + 1))
        case measure => omega
        case rel => first
          | exact ⟨k + 1, s.length - r.length, l2, xs ++ [(x, y, z)], by omega, rfl, by go_num, by omega, HRD5.out, HXL2.out, HNU5.out, HQ5.out, HG5.out⟩
          | ((repeat apply Exists.intro); exact ⟨⟨k + 1, s.length - r.length, l2, xs ++ [(x, y, z)], by omega, rfl, by go_num, by omega, HRD5.out, HXL2.out, HNU5.out, HQ5.out, HG5.out⟩, rfl⟩)
    · have hkk : k = n := by omega
      have HE : Hid (q = .ok (xs, s.drop pk) ∧ s.length - (s.drop pk).length = pk ∧ xs.length = n) := Lib.hid (by
        refine ⟨?_, lineA_end hpk, by rw [HXL.out]; omega⟩
        rw [HQ.out, show n - k = 0 by omega]
        simp [gateA, glueA])
      have HNF : Hid (TrP 84 wr g (xs.map triA)) := Lib.hid (by
        have h9 := HNU.out
        rw [show n - k = 0 by omega] at h9
        simpa using h9)
      clear hkk
      go_wp2
      go_ret
      refine ⟨HGB.out, ?_⟩
      rw [HE.out.1]
      refine ⟨g, lk, by rw [HE.out.2.2]; rfl, by rw [HGE.out]; exact Nat.le_refl _, HNF.out, ?_⟩
      rw [HE.out.2.1]
      exact HRD.out
end Go.Proofs.YtkkolefhfmlhfabDoor

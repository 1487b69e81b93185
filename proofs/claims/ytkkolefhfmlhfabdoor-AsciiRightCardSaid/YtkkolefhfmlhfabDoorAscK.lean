/- Ascii: justice. -/
import Derived.Test.YtkkolefhfmlhfabDoorAscJ
namespace Go.Proofs.YtkkolefhfmlhfabDoor
open Go.RowKit

theorem list_infoA : (Tryd.prog.info? 22).map (fun i => (i.zero, i.size, i.bytes)) = some (some (.slice none 0 0), 1, 24) := by kernel_rfl
theorem make_listA (n : Nat) (h : n ≤ 1000000) (wx : World) : (Instr.makeSlice 41 (.int .i64 (n : Int)) (.int .i64 (n : Int))).run Tryd.prog wx = .ok (.slice (some ⟨wx.heap.size, 0, none⟩) n n) (wx.alloc (.cells (madeCells #[Value.slice none 0 0] n) 22)) := by
  obtain ⟨i0, hi0, hz0, hz1, hz2⟩ := info_of' list_infoA
  have := run_make (P := Tryd.prog) wx 41 22 i0 (.slice none 0 0) Tryd.underlying41 hi0 hz0 .i64 .i64 n n (by omega) (by omega) (by rw [hz2]; omega) (by omega)
  rw [hz1] at this
  simpa [Value.cells] using this
theorem made_listA (n : Nat) : madeCells #[Value.slice none 0 0] n = (List.replicate n (Value.slice none 0 0)).toArray := by
  apply Array.toList_inj.1
  rw [toList_madeCells_one]
/-- What justice answers. -/
def JusAns (w : World) (b : Nat) (s : Bs) (q : Rs (List (List Nat))) (e : Ending) (w' : World) : Prop := match q with
  | .error k => e = pan ((s.length - k : Nat) : Int) 42
  | .ok (xss, r) => ∃ g gs l, e = .returned (.slice (some ⟨g, 0, none⟩) xss.length xss.length) ∧ w.heap.size ≤ g ∧ Blk w' g 22 (cellsJ gs xss).toArray ∧ InnJ w' g gs xss ∧ Rd w' b s (s.length - r.length) l
theorem lists_err {n k : Nat} {ns : List Nat} {r : Bs} (h : listA 2147483647 n r = .error k) : listsA (n :: ns) r = .error k := by unfold listsA; rw [h]
theorem lists_ok {n : Nat} {ns xs : List Nat} {r r' : Bs} (h : listA 2147483647 n r = .ok (xs, r')) : listsA (n :: ns) r = glueA [xs] (listsA ns r') := by
  have e : listsA (n :: ns) r = match listsA ns r' with
      | .error k => .error k
      | .ok (xss, r'') => .ok (xs :: xss, r'') := by
    conv => lhs; unfold listsA
    rw [h]
    rfl
  rw [e]
  cases listsA ns r' with
  | error k => rfl
  | ok y => rfl
theorem cellsJ_snoc {gs : List Nat} {xss : List (List Nat)} {g : Nat} {xs : List Nat} (h : gs.length = xss.length) : cellsJ (gs ++ [g]) (xss ++ [xs]) = cellsJ gs xss ++ [cellJ g xs] := by
  unfold cellsJ
  rw [List.zipWith_append h]
  rfl
theorem cellsJ_len {gs : List Nat} {xss : List (List Nat)} (h : gs.length = xss.length) : (cellsJ gs xss).length = gs.length := by
  unfold cellsJ
  rw [List.length_zipWith]
  omega
set_option maxHeartbeats 4000000 in
set_option maxRecDepth 100000 in
theorem justice_any (w : World) (B b : Nat) (s : Bs) (p l n : Nat) (h : Rd w b s p l) (hp : p ≤ s.length) (hs : s.length ≤ 262144) (hn : n ≤ 100000) (lib : LibB B w) (hB : B ≤ b) :
    Calls Tryd.prog 58 #[.pointer (some ⟨b, 0, none⟩), .int .i64 n] w fun e w' => w.grownBy w' (some b) ∧ JusAns w b s (justA n (s.drop p)) e w' := by
  have hlt : b < w.heap.size := Blk.lt h
  have HLB := Lib.hid lib
  have HL := Lib.hid (list_any w B b s p l n 16384 h hp hs hn (by omega) lib hB)
  obtain ⟨q, hq⟩ : ∃ q, justA n (s.drop p) = q := ⟨_, rfl⟩
  rw [hq]
  unfold justA at hq
  clear h lib
  cases hz : listA 16384 n (s.drop p) with
  | error k =>
    rw [hz] at HL hq
    simp only at hq
    have HE := Lib.hid hq
    clear hq hz
    go_enter Tryd.func58, Tryd.ntmps58
    go_wp2_with (go_at_call 74; refine HL.out.mono ?_; rintro e w1 ⟨hg, he⟩; have he2 : e = pan ((s.length - k : Nat) : Int) 42 := he; subst he2; have HG := Lib.hid hg; clear hg he)
    refine ⟨rfl, HG.out, ?_⟩
    rw [← HE.out]
    rfl
  | ok y =>
    obtain ⟨ns, r0⟩ := y
    rw [hz] at HL hq
    simp only at hq
    obtain ⟨hnl, hnle, t0, ht0⟩ := listA_ok hz
    have hr0 : s.drop (s.length - r0.length) = r0 := by
      have hsu : r0 <:+ s := List.IsSuffix.trans (⟨t0, ht0.symm⟩ : r0 <:+ s.drop p) (List.drop_suffix p s)
      exact (List.suffix_iff_eq_drop.1 hsu).symm
    have HNL := Lib.hid hnl
    have HNLE := Lib.hid hnle
    have HQ0 : Hid (q = glueA [] (listsA (ns.drop 0) (s.drop (s.length - r0.length)))) := Lib.hid (by rw [glue_nil, hr0, ← hq]; rfl)
    have hmk := make_listA n (by omega)
    clear hq hz ht0 hr0
    go_enter Tryd.func58, Tryd.ntmps58
    go_upto_region 2 with (go_at_call 74; refine HL.out.mono ?_; rintro e w1 ⟨hg, he⟩; obtain ⟨g1, l1, _, he3, h1, h2, h3⟩ := he; rw [HNL.out] at he3; subst he3; have HG1 := Lib.hid hg; have HGE1 := Lib.hid h1; have HN1 := Lib.hid h2; have HR1 := Lib.hid h3; clear hg h1 h2 h3)
    have HG2 : Hid (w.grownBy (w1.alloc (.cells (madeCells #[Value.slice none 0 0] n) 22)) (some b)) := Lib.hid (gb_below HG1.out ((Below.refl _ _).alloc (Nat.le_refl _) _))
    have HB2 : Hid (Blk (w1.alloc (.cells (madeCells #[Value.slice none 0 0] n) 22)) w1.heap.size 22 (List.replicate n (Value.slice none 0 0)).toArray) := Lib.hid (by rw [made_listA]; exact Blk.new _ _ _)
    have HR2 : Hid (Rd (w1.alloc (.cells (madeCells #[Value.slice none 0 0] n) 22)) b s (s.length - r0.length) l1) := Lib.hid (Blk.alloc HR1.out _)
    have HN2 : Hid (Nums (w1.alloc (.cells (madeCells #[Value.slice none 0 0] n) 22)) g1 (intsA ns)) := Lib.hid (Blk.alloc HN1.out _)
    have HI2 : Hid (InnJ (w1.alloc (.cells (madeCells #[Value.slice none 0 0] n) 22)) w1.heap.size [] []) := Lib.hid ⟨rfl, List.Pairwise.nil, fun g' hg' => by simp at hg', fun i g' xs h1 _ => by simp at h1⟩
    have HGG : Hid (w.heap.size ≤ w1.heap.size ∧ g1 < w1.heap.size) := Lib.hid ⟨HG1.out.size, Blk.lt HN1.out⟩
    go_wp2
    generalize w1.alloc (.cells (madeCells #[Value.slice none 0 0] n) 22) = W2 at HG2 HB2 HR2 HN2 HI2 ⊢
    obtain ⟨g, hg1⟩ : ∃ g, w1.heap.size = g := ⟨_, rfl⟩
    rw [hg1] at HB2 HI2 HGG ⊢
    clear hg1 hmk HL HG1 HN1 HR1
    have hp0 : s.length - r0.length ≤ s.length := Nat.sub_le _ _
    generalize s.length - r0.length = p0 at *
    go_loopg [16] n (fun j iv wx => ∃ (k pk lk : Nat) (gs : List Nat) (xss : List (List Nat)), k ≤ n ∧ j = n - k ∧ iv = .int .i64 k ∧ pk ≤ s.length ∧ Rd wx b s pk lk ∧ xss.length = k ∧ Blk wx g 22 (cellsJ gs xss ++ List.replicate (n - k) (Value.slice none 0 0)).toArray ∧ InnJ wx g gs xss ∧ Nums wx g1 (intsA ns) ∧ q = glueA xss (listsA (ns.drop k) (s.drop pk)) ∧ w.grownBy wx (some b))
    case atStart => exact ⟨0, p0, l1, [], [], Nat.zero_le _, rfl, rfl, hp0, HR2.out, rfl, HB2.out, HI2.out, HN2.out, HQ0.out, HG2.out⟩
    case round =>
      clear HB2 HI2 HR2 HG2 HN2 HQ0 hp0
      obtain ⟨k, pk, lk, gs, xss, hk, hgk, rfl, hpk, hrd, hxl, hbk, hin, hnu, hqq, hgb⟩ := hrel
      subst hgk
      have HRD := Lib.hid hrd
      have HXL := Lib.hid hxl
      have HBK := Lib.hid hbk
      have HIN := Lib.hid hin
      have HNU := Lib.hid hnu
      have HQ := Lib.hid hqq
      have HGB := Lib.hid hgb
      clear hrd hxl hbk hin hnu hqq hgb
      by_cases hkn : k < n
      · have hk0 : (0 : Int) ≤ (k : Int) := by omega
        have hk1 : (k : Int) < (n : Int) := by omega
        obtain ⟨z, hz⟩ : ∃ z, ns[k]? = some z := ⟨_, List.getElem?_eq_getElem (by rw [HNL.out]; exact hkn)⟩
        have hz2 : z ≤ 16384 := HNLE.out z (List.mem_of_getElem? hz)
        have c1 : wr.cell? ⟨g1, k, none⟩ = some (.int .i64 (z : Int)) := HNU.out.cell (by simp [intsA, hz])
        have HLI := Lib.hid (literals_any wr B b s pk lk z HRD.out hpk hs (by omega) (HLB.out.on (gb_to HGB.out hB (by omega))) hB)
        have HSZ : Hid (w.heap.size ≤ wr.heap.size) := Lib.hid HGB.out.size
        have hdz : ns.drop k = z :: ns.drop (k + 1) := drop_one hz
        cases hr : listA 2147483647 z (s.drop pk) with
        | error kk =>
          rw [hr] at HLI
          have HE : Hid (q = .error kk) := Lib.hid (by
            rw [HQ.out, hdz, lists_err hr]
            rfl)
          clear hr HQ hdz hz
          go_wp2_with (go_at_call 56; refine HLI.out.mono ?_; rintro e w1 ⟨hg, he⟩; have he2 : e = pan ((s.length - kk : Nat) : Int) 42 := he; subst he2; have HG := Lib.hid (gb_trans HGB.out hg); clear hg he)
          refine ⟨rfl, HG.out, ?_⟩
          rw [HE.out]
          rfl
        | ok y =>
          obtain ⟨xs, r⟩ := y
          rw [hr] at HLI
          obtain ⟨hxs, _, t1, ht1⟩ := listA_ok hr
          have hr1 : s.drop (s.length - r.length) = r := by
            have hsu : r <:+ s := List.IsSuffix.trans (⟨t1, ht1.symm⟩ : r <:+ s.drop pk) (List.drop_suffix pk s)
            exact (List.suffix_iff_eq_drop.1 hsu).symm
          have HQ5 : Hid (q = glueA (xss ++ [xs]) (listsA (ns.drop (k + 1)) (s.drop (s.length - r.length)))) := Lib.hid (by
            rw [HQ.out, hdz, lists_ok hr, glue_glue, hr1])
          clear hr hxs ht1 hr1 hdz hz HQ
          have HAF : Hid (∀ w3, wr.grownBy w3 (some b) → Blk w3 g 22 (cellsJ gs xss ++ List.replicate (n - k) (Value.slice none 0 0)).toArray ∧ w3.frozen? ⟨g, k, none⟩ = false ∧ w3.cell? ⟨g, k, none⟩ = some (.slice none 0 0)) := Lib.hid (fun w3 hg => by
            have hb3 : Blk w3 g 22 (cellsJ gs xss ++ List.replicate (n - k) (Value.slice none 0 0)).toArray := (hg.block g (Blk.lt HBK.out) (fun e => by injection e with e; have := HGG.out.1; omega)).trans HBK.out
            have hl : (cellsJ gs xss).length = k := by rw [cellsJ_len HIN.out.len, HIN.out.len, HXL.out]
            refine ⟨hb3, Blk.frozen hb3 k, ?_⟩
            rw [hb3.cell, List.getElem?_toArray, List.getElem?_append_right (by omega), List.getElem?_replicate, if_pos (by omega)])
          go_upto_region 7 with (go_at_call 56; refine HLI.out.mono ?_; rintro e w3 ⟨hg, he⟩; obtain ⟨g3, l3, _, rfl, h1, h2, h3⟩ := he; have HG3 := Lib.hid hg; have HGE3 := Lib.hid h1; have HN3 := Lib.hid h2; have HRD3 := Lib.hid h3; obtain ⟨_, f3, c3⟩ := HAF.out w3 hg; clear hg h1 h2 h3)
          have HGG3 : Hid (g < g3 ∧ b < g ∧ ∀ x ∈ gs, x < g3) := Lib.hid (by
            have h8 := Blk.lt HBK.out
            have h9 := HGE3.out
            exact ⟨by omega, by have := HGG.out.1; omega, fun x hx => by have := (HIN.out.lt x hx).2; omega⟩)
          have HIN3 : Hid (InnJ w3 g (gs ++ [g3]) (xss ++ [xs])) := Lib.hid ((HIN.out.grow HG3.out HGG3.out.2.1).snoc HGG3.out.1 HGG3.out.2.2 HN3.out)
          obtain ⟨W5, hW5⟩ : ∃ W5, w3.setCell ⟨g, k, none⟩ (cellJ g3 xs) = W5 := ⟨_, rfl⟩
          have HW5 := Lib.hid hW5
          have HIN5 : Hid (InnJ W5 g (gs ++ [g3]) (xss ++ [xs])) := Lib.hid (by rw [← hW5]; exact HIN3.out.set_ _ _)
          have HBK5 : Hid (Blk W5 g 22 (cellsJ (gs ++ [g3]) (xss ++ [xs]) ++ List.replicate (n - (k + 1)) (Value.slice none 0 0)).toArray) := Lib.hid (by
            have h9 := Blk.set_ (HAF.out w3 HG3.out).1 k (cellJ g3 xs)
            have hl : (cellsJ gs xss).length = k := by rw [cellsJ_len HIN.out.len, HIN.out.len, HXL.out]
            have e9 : (cellsJ gs xss ++ List.replicate (n - k) (Value.slice none 0 0)).set k (cellJ g3 xs) = cellsJ (gs ++ [g3]) (xss ++ [xs]) ++ List.replicate (n - (k + 1)) (Value.slice none 0 0) := by
              rw [show n - k = (n - (k + 1)) + 1 by omega, List.replicate_succ, cellsJ_snoc HIN.out.len, List.set_append_right _ _ (by omega), hl, Nat.sub_self]
              simp
            rw [hW5] at h9
            rw [← e9]
            simpa using h9)
          have hgb5 : w3.grownBy W5 (some g) := by rw [← hW5]; exact gb_set (World.grownBy.refl w3 (some g)) _ _
          have HRD5 : Hid (Rd W5 b s (s.length - r.length) l3) := Lib.hid (by
            have h9 := HRD3.out
            exact (hgb5.block b (Blk.lt h9) (fun e => by injection e with e; have := HGG3.out.2.1; omega)).trans h9)
          have HN5 : Hid (Nums W5 g1 (intsA ns)) := Lib.hid (by
            have h8 : Nums w3 g1 (intsA ns) := (HG3.out.block g1 (Blk.lt HNU.out) (fun e => by injection e with e; have := HGE1.out; omega)).trans HNU.out
            exact (hgb5.block g1 (Blk.lt h8) (fun e => by injection e with e; have := HGG.out.2; omega)).trans h8)
          have HG5 : Hid (w.grownBy W5 (some b)) := Lib.hid (by
            have h9 := gb_trans HGB.out HG3.out
            refine ⟨hgb5.os.trans h9.os, hgb5.tape.trans h9.tape, hgb5.output.trans h9.output, Nat.le_trans h9.size hgb5.size, fun k9 hk9 hne => ?_⟩
            exact (hgb5.block k9 (Nat.lt_of_lt_of_le hk9 h9.size) (fun e => by injection e with e; have := HGG.out.1; omega)).trans (h9.block k9 hk9 hne))
          have HXL2 : Hid ((xss ++ [xs]).length = k + 1) := Lib.hid (by simp [HXL.out])
          rw [show w3.setCell ⟨g, k, none⟩ (.slice (some ⟨g3, 0, none⟩) xs.length xs.length) = W5 from hW5]
          clear hgb5 hW5 f3 c3 c1 HLI HAF HIN3
          go_wp2
          go_roundg (n - (k + 1))
          case measure => omega
          case rel => first
            | exact ⟨k + 1, s.length - r.length, l3, gs ++ [g3], xss ++ [xs], by omega, rfl, by go_num, by omega, HRD5.out, HXL2.out, HBK5.out, HIN5.out, HN5.out, HQ5.out, HG5.out⟩
            | ((repeat apply Exists.intro); exact ⟨⟨k + 1, s.length - r.length, l3, gs ++ [g3], xss ++ [xs], by omega, rfl, by go_num, by omega, HRD5.out, HXL2.out, HBK5.out, HIN5.out, HN5.out, HQ5.out, HG5.out⟩, rfl⟩)
      · have hkk : k = n := by omega
        have HE : Hid (q = .ok (xss, s.drop pk) ∧ s.length - (s.drop pk).length = pk ∧ xss.length = n) := Lib.hid (by
          refine ⟨?_, lineA_end hpk, by rw [HXL.out]; omega⟩
          rw [HQ.out, List.drop_eq_nil_of_le (by rw [HNL.out]; omega)]
          simp [listsA, glueA])
        have HBF : Hid (Blk wr g 22 (cellsJ gs xss).toArray) := Lib.hid (by
          have h9 := HBK.out
          rw [show n - k = 0 by omega] at h9
          simpa using h9)
        clear hkk
        go_wp2
        go_ret
        refine ⟨HGB.out, ?_⟩
        rw [HE.out.1]
        refine ⟨g, gs, lk, by rw [HE.out.2.2]; rfl, HGG.out.1, HBF.out, HIN.out, ?_⟩
        rw [HE.out.2.1]
        exact HRD.out
end Go.Proofs.YtkkolefhfmlhfabDoor

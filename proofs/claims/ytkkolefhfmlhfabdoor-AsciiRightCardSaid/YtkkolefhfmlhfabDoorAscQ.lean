/- Ascii: the end of a text. -/
import Derived.Test.YtkkolefhfmlhfabDoorAscO
namespace Go.Proofs.YtkkolefhfmlhfabDoor
open Go.RowKit

theorem reads_triA (w : World) (a b c : Value) (t : TypeId) : Reads (w.alloc (.cells #[a, b, c] t)) (w.heap.size + 1) 3 (some ⟨w.heap.size, 0, none⟩) 1 [a, b, c] := by
  refine ⟨rfl, fun _ => ⟨_, rfl, by simp, fun j u hu => ?_⟩⟩
  rw [add_none, Nat.zero_add, cell_of_row _ _ _ #[a, b, c] t (0, 0) (heap_alloc_new w _)]
  simpa using hu
theorem symA_info : (Tryd.prog.info? 38).map (fun i => (i.zero, i.size, i.bytes)) = some (some (.agg #[.int .u8 0, .int .i64 0, .string ⟨#[]⟩]), 3, 32) := by kernel_rfl
/-- The cells of symbols. -/
def cellsY (ss : List SyA) : List Value := (ss.map symS).flatMap encS
theorem cellsY_snoc (ss : List SyA) (y : SyA) : cellsY (ss ++ [y]) = cellsY ss ++ [.int .u8 (y.1.toNat : Int), .int .i64 (y.2.1 : Int), .string (strB y.2.2)] := by simp [cellsY, symS, encS]
/-- What tail answers. -/
def TailAns (w : World) (s : Bs) (q : Except Nat (List SyA × List Bs)) (e : Ending) (w' : World) : Prop := match q with
  | .error k => e = pan ((s.length - k : Nat) : Int) 42
  | .ok (ss, ls) => ∃ v u, e = .returned (.tuple #[v, u]) ∧ w'.ownsRow w.heap.size 38 3 v ss.length (cellsY ss) ∧ w'.ownsRow w.heap.size 9 1 u ls.length (ls.map svA)
theorem strB_is (l : Bs) (c : UInt8) : ((strB l).toList == [c]) = decide (l = [c]) := by
  rw [strB_toList]
  by_cases h : l = [c]
  · subst h; simp
  · simp [h]
set_option maxHeartbeats 8000000 in
set_option maxRecDepth 100000 in
theorem tail_any (w : World) (B b : Nat) (s : Bs) (p l : Nat) (h : Rd w b s p l) (hp : p ≤ s.length) (hs : s.length ≤ 262144) (lib : LibB B w) (hB : B ≤ b) :
    Calls Tryd.prog 28 #[.pointer (some ⟨b, 0, none⟩)] w fun e w' => w.grownBy w' (some b) ∧ TailAns w s (tailP (s.drop p)) e w' := by
  have hlt : b < w.heap.size := Blk.lt h
  have HLB := Lib.hid lib
  have HR0 := Lib.hid h
  obtain ⟨q, hq⟩ : ∃ q, tailP (s.drop p) = q := ⟨_, rfl⟩
  rw [hq]
  have HQ0 : Hid (q = glueT [] (tailP (s.drop p))) := Lib.hid (by rw [glueT_nil, hq])
  have HG0 : Hid (w.grownBy w (some b)) := Lib.hid (World.grownBy.refl w _)
  have HO0 : Hid (w.ownsRow w.heap.size 38 3 (.slice none 0 0) 0 (cellsY [])) := Lib.hid (World.ownsRow_nil _ _ _ _)
  obtain ⟨iS, hiS, hSz0, hSz1, hSz2⟩ := info_of' symA_info
  have HIS := Lib.hid (And.intro hiS (And.intro hSz0 (And.intro hSz1 hSz2)))
  obtain ⟨g0, hg0⟩ : ∃ g, w.heap.size = g := ⟨_, rfl⟩
  rw [hg0] at HO0 hlt
  have HGE := Lib.hid hg0
  clear h lib hq hiS hSz0 hSz1 hSz2 hg0
  go_enter Tryd.func28, Tryd.ntmps28
  go_upto_region 1 with (fail)
  go_loopg [2] (s.length - p) (fun j v wx => ∃ (pk lk : Nat) (ss : List SyA), j = s.length - pk ∧ pk ≤ s.length ∧ Rd wx b s pk lk ∧ wx.ownsRow g0 38 3 v ss.length (cellsY ss) ∧ ss.length ≤ pk ∧ q = glueT ss (tailP (s.drop pk)) ∧ w.grownBy wx (some b))
  case atStart => exact ⟨p, l, [], rfl, hp, HR0.out, HO0.out, Nat.zero_le _, HQ0.out, HG0.out⟩
  case round =>
    clear HR0 HQ0 HG0 HO0
    obtain ⟨pk, lk, ss, hgk, hpk, hrd, hown, hlp, hqq, hgb⟩ := hrel
    subst hgk
    obtain ⟨As, cs, hse⟩ := own_sliceA hown
    subst hse
    have HQ := Lib.hid hqq
    have HGB := Lib.hid hgb
    clear hqq hgb
    have d0 : wr.drew.cell? ⟨b, 0, none⟩ = some (.string (strB s)) := hrd.cells.1
    have d1 : wr.drew.cell? ⟨b, 1, none⟩ = some (.int .i64 (pk : Int)) := hrd.cells.2.1
    have e0 : wr.cell? ⟨b, 0, none⟩ = some (.string (strB s)) := hrd.cells.1
    have e1 : wr.cell? ⟨b, 1, none⟩ = some (.int .i64 (pk : Int)) := hrd.cells.2.1
    have hsz : (strB s).size = s.length := strB_size s
    have HOD : Hid (wr.drew.ownsRow g0 38 3 (.slice As ss.length cs) ss.length (cellsY ss)) := Lib.hid (hown)
    have HRDD : Hid (Rd wr.drew b s pk lk) := Lib.hid (Blk.drew hrd)
    have HGBD : Hid (w.grownBy wr.drew (some b)) := Lib.hid (gb_drew HGB.out)
    clear hrd hown
    by_cases hkn : pk < s.length
    · have hkI : (pk : Int) < (s.length : Int) := by omega
      have HLN := Lib.hid (line_any wr.drew B b s pk lk HRDD.out hpk hs (HLB.out.on (gb_to HGBD.out hB (by rw [HGE.out]; omega))) hB)
      cases hl : lineA (s.drop pk) with
      | none =>
        rw [hl] at HLN
        have HE : Hid (q = .error (s.drop pk).length ∧ s.length - (s.drop pk).length = pk) := Lib.hid ⟨by rw [HQ.out, tailP_none (by intro e; have := congrArg List.length e; simp at this; omega) hl]; rfl, lineA_end hpk⟩
        clear hl HQ
        go_upto_region 1 with (fail)
        go_region
        go_wp2_with (go_at_call 52; refine HLN.out.mono ?_; rintro e w1 ⟨hg, he⟩; have he2 : e = pan pk 42 := he; subst he2; have HG := Lib.hid (gb_trans HGBD.out hg); clear hg he)
        refine ⟨rfl, HG.out, ?_⟩
        rw [HE.out.1]
        show pan pk 42 = pan _ 42
        rw [HE.out.2]
      | some y =>
        obtain ⟨ln, r⟩ := y
        obtain ⟨hd, hr, hp2, hln⟩ := lineA_drop hl
        rw [hl] at HLN
        have hadv : pk < s.length - r.length := by
          have h9 := (lineA_len hl).2
          rw [List.length_drop] at h9
          omega
        have hq1 : s.length - r.length ≤ s.length := Nat.sub_le _ _
        by_cases hc : ln = [99]
        · have hcc : ((strB ln).toList == [99]) = true := by rw [strB_is]; simpa using hc
          have HCO := Lib.hid (fun (wx : World) (hrd : Rd wx b s (s.length - r.length) pk) (hb : w.grownBy wx (some b)) => comments_any wx B b s (s.length - r.length) pk hrd hq1 hs (HLB.out.on (gb_to hb hB (by rw [HGE.out]; omega))) hB)
          have HT : Hid (q = glueT ss (match notesP r with
            | .error k => .error k
            | .ok ls => .ok ([], ls))) := Lib.hid (by rw [HQ.out]; congr 1; exact tailP_c (by rw [hl, hc]))
          rw [hd] at HCO
          clear hl HQ hd hc
          cases hn : notesP r with
          | error k =>
            rw [hn] at HCO
            have HE : Hid (q = .error k) := Lib.hid (by rw [HT.out, hn]; rfl)
            clear hn HT
            go_upto_region 1 with (fail)
            go_region
            go_wp2_with (first
              | (go_at_call 52; refine HLN.out.mono ?_; rintro e w1 ⟨hg, he⟩; obtain ⟨rfl, hrd⟩ := he; have HG := Lib.hid (gb_trans HGBD.out hg); have HRD1 := Lib.hid hrd; clear hg hrd)
              | (go_at_call 53; refine (HCO.out w1 HRD1.out HG.out).mono ?_; rintro e w2 ⟨hg, he⟩; have he2 : e = pan ((s.length - k : Nat) : Int) 42 := he; subst he2; have HG2 := Lib.hid (gb_trans HG.out hg); clear hg he))
            refine ⟨rfl, HG2.out, ?_⟩
            rw [HE.out]
            rfl
          | ok ls =>
            rw [hn] at HCO
            have HE : Hid (q = .ok (ss, ls)) := Lib.hid (by rw [HT.out, hn]; simp [glueT])
            clear hn HT
            go_upto_region 1 with (fail)
            go_region
            go_wp2_with (first
              | (go_at_call 52; refine HLN.out.mono ?_; rintro e w1 ⟨hg, he⟩; obtain ⟨rfl, hrd⟩ := he; have HG := Lib.hid (gb_trans HGBD.out hg); have HRD1 := Lib.hid hrd; have HO1 : Hid (w1.ownsRow g0 38 3 (.slice As ss.length cs) ss.length (cellsY ss)) := Lib.hid (own_of_block HOD.out fun g9 hg9 => hg.block g9 (HOD.out.lt g9 hg9).2 (fun e => by injection e with e; have := (HOD.out.lt g9 hg9).1; omega)); clear hg hrd)
              | (go_at_call 53; refine (HCO.out w1 HRD1.out HG.out).mono ?_; rintro e w2 ⟨hg, he⟩; obtain ⟨u, rfl, hu⟩ := he; have HG2 := Lib.hid (gb_trans HG.out hg); have HU := Lib.hid hu; have HO2 : Hid (w2.ownsRow g0 38 3 (.slice As ss.length cs) ss.length (cellsY ss)) := Lib.hid (own_of_block HO1.out fun g9 hg9 => hg.block g9 (HO1.out.lt g9 hg9).2 (fun e => by injection e with e; have := (HO1.out.lt g9 hg9).1; omega)); clear hg hu))
            go_ret2
            refine ⟨HG2.out, ?_⟩
            rw [HE.out]
            exact ⟨_, u, rfl, by rw [HGE.out]; exact HO2.out, own_le HU.out HG.out.size⟩
        · have hcc : ((strB ln).toList == [99]) = false := by rw [strB_is]; simpa using hc
          have HSY := Lib.hid (fun (wx : World) (hrd : Rd wx b s (s.length - r.length) pk) (hb : w.grownBy wx (some b)) => symbol_any wx B b s ln (s.length - r.length) pk hrd (by omega) (HLB.out.on (gb_to hb hB (by rw [HGE.out]; omega))) hB)
          cases hy : symA ln with
          | none =>
            rw [hy] at HSY
            have HE : Hid (q = .error (s.drop pk).length ∧ s.length - (s.drop pk).length = pk) := Lib.hid ⟨by rw [HQ.out, tailP_bad hl hc hy]; rfl, lineA_end hpk⟩
            clear hl HQ hd hc hy
            go_upto_region 1 with (fail)
            go_region
            go_wp2_with (first
              | (go_at_call 52; refine HLN.out.mono ?_; rintro e w1 ⟨hg, he⟩; obtain ⟨rfl, hrd⟩ := he; have HG := Lib.hid (gb_trans HGBD.out hg); have HRD1 := Lib.hid hrd; clear hg hrd)
              | (go_at_call 54; refine (HSY.out w1 HRD1.out HG.out).mono ?_; rintro e w2 ⟨hb, he⟩; have he2 : e = pan pk 42 := he; subst he2; have HG2 := Lib.hid (gb_below HG.out hb); clear hb he))
            refine ⟨rfl, HG2.out, ?_⟩
            rw [HE.out.1]
            show pan pk 42 = pan _ 42
            rw [HE.out.2]
          | some y =>
            rw [hy] at HSY
            have HQ5 : Hid (q = glueT (ss ++ [y]) (tailP (s.drop (s.length - r.length)))) := Lib.hid (by rw [HQ.out, tailP_some hl hc hy, glueT_glue, hd])
            clear hl HQ hd hc hy
            have hls : ss.length ≤ 262144 := by omega
            obtain ⟨nl, hnl⟩ : ∃ nl, ss.length = nl := ⟨_, rfl⟩
            rw [hnl] at HOD hls
            have HNL := Lib.hid hnl
            rw [hnl]
            clear hnl
            go_upto_region 1 with (fail)
            go_region
            go_wp2_with (first
              | (go_at_call 52; refine HLN.out.mono ?_; rintro e w1 ⟨hg, he⟩; obtain ⟨rfl, hrd⟩ := he; have HG := Lib.hid (gb_trans HGBD.out hg); have HRD1 := Lib.hid hrd; have HO1 : Hid (w1.ownsRow g0 38 3 (.slice As nl cs) nl (cellsY ss)) := Lib.hid (own_of_block HOD.out fun g9 hg9 => hg.block g9 (HOD.out.lt g9 hg9).2 (fun e => by injection e with e; have := (HOD.out.lt g9 hg9).1; omega)); clear hg hrd)
              | (go_at_call 54; refine (HSY.out w1 HRD1.out HG.out).mono ?_; rintro e w2 ⟨hb, he⟩; have he2 : e = .returned (.agg #[.int .u8 (y.1.toNat : Int), .int .i64 (y.2.1 : Int), .string (strB y.2.2)]) := he; subst he2; have HG2 := Lib.hid (gb_below HG.out hb); have HRD2 := Lib.hid (HRD1.out.below hb); have HO2 := Lib.hid (own_below HO1.out hb); have HGS : Hid (g0 ≤ w2.heap.size) := Lib.hid (by have := HG2.out.size; have := HGE.out; omega); clear hb he)
              | (at_builtin; refine wpList_append_any _ rfl (.tmp 22) (.tmp 26) _ rfl g0 38 iS _ 3 32 Tryd.underlying32 HIS.out.1 HIS.out.2.1 HIS.out.2.2.1 HIS.out.2.2.2 rfl (by omega) (.slice As nl cs) nl (cellsY ss) rfl (HO2.out.alloc _) (w2.heap.size + 1) (some ⟨w2.heap.size, 0, none⟩) 1 1 [.int .u8 (y.1.toNat : Int), .int .i64 (y.2.1 : Int), .string (strB y.2.2)] rfl (reads_triA _ _ _ _ _) (by simp [Value.oneCell']) (by simp only [maxLen]; omega) (by omega) (by have := HGS.out; simp; omega) ?_; intro v7 w7 hown7 hg7 hat7; have HO7 := Lib.hid hown7; have HG7 := Lib.hid hg7; clear hown7 hg7 hat7))
            have HR7 : Hid (Rd w7 b s (s.length - r.length) pk) := Lib.hid (Blk.grown (Blk.alloc HRD2.out _) HG7.out (fun e => by have := (HO2.out.lt b e.symm).1; omega))
            have HGB7 : Hid (w.grownBy w7 (some b)) := Lib.hid (gb_own (gb_below HG2.out ((Below.refl _ _).alloc (Nat.le_refl _) _)) HG7.out (fun k hk => by have := (HO2.out.lt k hk).1; have := HGE.out; omega))
            have HO8 : Hid (w7.ownsRow g0 38 3 v7 (ss ++ [y]).length (cellsY (ss ++ [y]))) := Lib.hid (by
              have h9 := HO7.out
              rw [cellsY_snoc, List.length_append, HNL.out]
              exact h9)
            have hlen8 : (ss ++ [y]).length ≤ s.length - r.length := by have h9 := hlp; rw [HNL.out] at h9; rw [List.length_append, HNL.out, List.length_singleton]; omega
            go_roundg (s.length - (s.length - r.length))
            case measure => omega
            case rel => first
              | exact ⟨s.length - r.length, pk, ss ++ [y], rfl, by omega, HR7.out, HO8.out, hlen8, HQ5.out, HGB7.out⟩
              | ((repeat apply Exists.intro); exact ⟨⟨s.length - r.length, pk, ss ++ [y], rfl, by omega, HR7.out, HO8.out, hlen8, HQ5.out, HGB7.out⟩, rfl⟩)
    · have hkI : ¬ ((pk : Int) < (s.length : Int)) := by omega
      have hke : pk = s.length := by omega
      have HE : Hid (q = .ok (ss, [])) := Lib.hid (by rw [HQ.out, hke, List.drop_eq_nil_of_le (Nat.le_refl _), tailP_nil]; simp [glueT])
      clear hke HQ
      go_upto_region 1 with (fail)
      go_region
      go_wp2
      go_ret2
      refine ⟨HGBD.out, ?_⟩
      rw [HE.out]
      exact ⟨_, _, rfl, by rw [HGE.out]; exact HOD.out, World.ownsRow_nil _ _ _ _⟩
end Go.Proofs.YtkkolefhfmlhfabDoor

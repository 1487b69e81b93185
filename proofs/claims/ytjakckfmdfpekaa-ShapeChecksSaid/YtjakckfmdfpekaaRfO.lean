/- The document's own Order. -/
import Derived.Test.YtjakckfmdfpekaaRfA
import Derived.Test.YtjakckfmdfpekaaSeen
import Derived.Deep.DeepCutAuto
import Derived.Deep.CutBlock
import Derived.Deep.LoopGhost
import Derived.Test.YtjakckfmdfpekaaRfD
import Derived.Test.YtjakckfmdfpekaaRfR
import Derived.Lib.IndexAny
namespace Go.Proofs.Ytjakckfmdfpekaa
open Go.RowKit

/-- The kinds and numbers of the symbols ahead, the last one first. -/
def psK (C : Circ) (k : Nat) : List (Int × Int) := ((C.symbols.take k).map (fun s => (s.kind, s.at_))).reverse
theorem psK_snoc {C : Circ} {k : Nat} {s : Sym} (h : C.symbols[k]? = some s) : psK C (k + 1) = (s.kind, s.at_) :: psK C k := by
  unfold psK
  rw [List.take_add_one, h]; simp
theorem psK_zero (C : Circ) : psK C 0 = [] := rfl
/-- The bytes of a name. -/
def lowAll (s : ByteArray) (k : Nat) : Bool := (s.data.toList.take k).all fun b => decide (32 ≤ b.toNat)
theorem lowAll_snoc {s : ByteArray} {k : Nat} (hk : k < s.size) : lowAll s (k + 1) = (lowAll s k && decide (32 ≤ s[k].toNat)) := by
  have hk' : k < s.data.toList.length := by rw [Array.length_toList]; exact hk
  unfold lowAll
  rw [List.take_succ_eq_append_getElem hk', List.all_append]
  have e : s.data.toList[k] = s[k] := rfl
  rw [e]; simp
theorem nameB_all (s : ByteArray) : nameB s = (decide (1 ≤ s.size ∧ s.size ≤ 64) && lowAll s s.size) := by
  have e : s.data.toList.take s.size = s.data.toList := List.take_of_length_le (by rw [Array.length_toList]; exact Nat.le_refl _)
  unfold nameB lowAll; rw [e]
/-- What stays while a symbol is looked at. -/
structure SymS (w0 w : World) (b gs : Nat) (cs : Array Value) (kd at_ : Int) (nm : ByteArray) : Prop where
  below : Below w0.heap.size w0 w
  box : Blk w b 29 cs
  sym : Blk w gs 78 #[.int .u8 kd, .int .i64 at_, .string nm]
theorem SymS.drewN {w0 w : World} {b gs : Nat} {cs : Array Value} {kd at_ : Int} {nm : ByteArray} (h : SymS w0 w b gs cs kd at_ nm) (k : Nat) : SymS w0 (w.drewN k) b gs cs kd at_ nm := ⟨below_drewN h.below k, h.box.drewN k, h.sym.drewN k⟩

set_option maxHeartbeats 20000000 in
set_option maxRecDepth 100000 in
theorem rsymbols_any (w : World) (V : CV) (C : Circ) (h : C.In w V) (ok : C.Ok) (hn16 : C.symbols.length ≤ 16384) :
    Calls Try.prog 43 #[V.val C.max] w fun e w' => e = .returned (.tuple #[.int .i64 (symR C).1, .int .i64 (symR C).2]) ∧ Below w.heap.size w w' := by
  have HCN := Lib.hid (fun k => countF_bd h k)
  obtain ⟨Ai, ci, ei, hi2⟩ := len_form h.i
  obtain ⟨Al, cl, el, hl2⟩ := len_form h.l
  obtain ⟨Ao, co, eo, ho2⟩ := len_form h.o
  obtain ⟨Ab, cb, eb, hb2⟩ := len_form h.b
  obtain ⟨Ac, cc, ec, hc2⟩ := len_form h.c
  obtain ⟨Aj, cj, ej, hj2, _⟩ := h.j.at_
  obtain ⟨Af, cf, ef, hf2⟩ := len_form h.f
  obtain ⟨AS, cS, eS, _, _, hS⟩ := h.s
  obtain ⟨Vi, Vl, Vo, Vb, Vc, Vj, Vf, Va, Vs, Vt⟩ := V
  simp only at ei el eo eb ec ej ef eS
  subst ei el eo eb ec ej ef eS
  have HS := Lib.hid hS
  have HOK := Lib.hid ok
  have HSN := Lib.hid ok.sn
  clear h hS ok
  generalize hr : symR C = r
  have HR := Lib.hid hr
  clear hr
  unfold symR at HR
  have HCF : Hid (∀ k, countF C k = if k = 105 then (C.inputs.length : Int) else if k = 108 then (C.latches.length : Int) else if k = 111 then (C.outputs.length : Int) else if k = 98 then (C.bads.length : Int) else if k = 99 then (C.constraints.length : Int) else if k = 106 then (C.justice.length : Int) else if k = 102 then (C.fairness.length : Int) else 0) := Lib.hid (fun k => rfl)
  generalize C.inputs.length = ni at *
  generalize C.latches.length = nl at *
  generalize C.outputs.length = no at *
  generalize C.bads.length = nb at *
  generalize C.constraints.length = nc at *
  generalize C.justice.length = nj at *
  generalize C.fairness.length = nf at *
  generalize hn : C.symbols.length = n at *
  have HN := Lib.hid hn
  clear hn
  unfold maxLen at *
  have HBX : Hid (Blk (w.alloc (.cells #[.int .i64 C.max, .slice Ai ni ci, .slice Al nl cl, .slice Ao no co, .slice Ab nb cb, .slice Ac nc cc, .slice Aj nj cj, .slice Af nf cf, Va, .slice AS n cS, Vt] 29)) w.heap.size 29 #[.int .i64 C.max, .slice Ai ni ci, .slice Al nl cl, .slice Ao no co, .slice Ab nb cb, .slice Ac nc cc, .slice Aj nj cj, .slice Af nf cf, Va, .slice AS n cS, Vt]) := Lib.hid (Blk.new _ _ _)
  have HBB : Hid (Below w.heap.size w (w.alloc (.cells #[.int .i64 C.max, .slice Ai ni ci, .slice Al nl cl, .slice Ao no co, .slice Ab nb cb, .slice Ac nc cc, .slice Aj nj cj, .slice Af nf cf, Va, .slice AS n cS, Vt] 29))) := Lib.hid ((Below.refl w.heap.size w).alloc (Nat.le_refl _) _)
  go_enter Try.func43, Try.ntmps43
  go_wp2
  go_loopg [4] n (fun j iv wr => ∃ i : Nat, i ≤ n ∧ iv = .int .i64 i ∧ j = n - i ∧ symAll C C.symbols 0 [] = symAll C (C.symbols.drop i) i (psK C i) ∧ Below w.heap.size w wr ∧ Blk wr w.heap.size 29 #[.int .i64 C.max, .slice Ai ni ci, .slice Al nl cl, .slice Ao no co, .slice Ab nb cb, .slice Ac nc cc, .slice Aj nj cj, .slice Af nf cf, Va, .slice AS n cS, Vt])
  case atStart => exact ⟨0, Nat.zero_le _, rfl, rfl, by rw [psK_zero]; rfl, HBB.out, HBX.out⟩
  case round =>
    obtain ⟨i, hi, rfl, hgk, hall, hbl, hbx⟩ := hrel
    subst hgk
    have HALL := Lib.hid hall
    have HBL := Lib.hid hbl
    have HBO := Lib.hid hbx
    clear hall HBX HBB
    obtain ⟨c0, c1, c2, c3, c4, c5, c6, c7, c8, c9, c10⟩ := rbox_of hbx
    by_cases hlt : i < n
    · have hx := List.getElem?_eq_getElem (l := C.symbols) (i := i) (by rw [HN.out]; exact hlt)
      generalize C.symbols[i]'(by rw [HN.out]; exact hlt) = x at hx
      obtain ⟨b, off, rfl, hb, hcell⟩ := HS.out i x hx
      have hxo := HOK.out.s x (List.mem_of_getElem? hx)
      have hnm := HSN.out x (List.mem_of_getElem? hx)
      have HX := Lib.hid hx
      obtain ⟨kd, at_, nm⟩ := x
      have h0 := (hbl.cell (p := ⟨b, off + (i * 3 + 0), none⟩) hb).trans (hcell 0 _ rfl)
      have h1 := (hbl.cell (p := ⟨b, off + (i * 3 + 1), none⟩) hb).trans (hcell 1 _ rfl)
      have h2 := (hbl.cell (p := ⟨b, off + (i * 3 + 2), none⟩) hb).trans (hcell 2 _ rfl)
      simp only [Nat.add_zero, ← Nat.add_assoc] at h0 h1 h2
      have HROWS := Lib.hid (fun (k : Nat) (z : Sym) (hz : C.symbols[k]? = some z) (wx : World) (hwx : Below w.heap.size w wx) => HS.out k z hz)
      obtain ⟨_, _, hat⟩ := hxo
      simp only at hnm hat
      skip
      have HSS : Hid (SymS w (wr.alloc (.cells #[.int .u8 kd, .int .i64 at_, .string nm] 78)) w.heap.size wr.heap.size #[.int .i64 C.max, .slice Ai ni ci, .slice Al nl cl, .slice Ao no co, .slice Ab nb cb, .slice Ac nc cc, .slice Aj nj cj, .slice Af nf cf, Va, .slice (some ⟨b, off, none⟩) n cS, Vt] kd at_ nm) := Lib.hid ⟨hbl.alloc hbl.size _, hbx.alloc _, Blk.new _ _ _⟩
      obtain ⟨g0, g1, g2, g3, g4, g5, g6, g7, g8, g9, g10⟩ := rbox_of HSS.out.box
      have s0 := HSS.out.sym.cell 0
      have s1 := HSS.out.sym.cell 1
      have s2 := HSS.out.sym.cell 2
      simp only [List.getElem?_toArray, List.getElem?_cons_zero, List.getElem?_cons_succ] at s0 s1 s2
      have hwz : w.heap.size < wr.heap.size := Blk.lt hbx
      have hk0 : (0 : Int) ≤ (i : Int) := by omega
      have hk1 : (i : Int) < (n : Int) := by omega
      clear hx hcell hbl hbx
      go_upto_block 2 with fail
      go_cut [6] (fun v6 wx => ∃ c : Int, v6 = .int .i64 c ∧ (0 ≤ at_ → decide (at_ < c) = decide (at_ < countF C kd)) ∧ wx = wr.alloc (.cells #[.int .u8 kd, .int .i64 at_, .string nm] 78))
      case first =>
        have hx : kd = 105 ∨ kd = 108 ∨ kd = 111 ∨ kd = 98 ∨ kd = 99 ∨ kd = 106 ∨ kd = 102 ∨ (kd ≠ 105 ∧ kd ≠ 108 ∧ kd ≠ 111 ∧ kd ≠ 98 ∧ kd ≠ 99 ∧ kd ≠ 106 ∧ kd ≠ 102) := by omega
        rcases hx with rfl | rfl | rfl | rfl | rfl | rfl | rfl | ⟨e1, e2, e3, e4, e5, e6, e7⟩
        case inr.inr.inr.inr.inr.inr.inr =>
          have e : countF C kd = 0 := by rw [HCF.out]; rw [if_neg e1, if_neg e2, if_neg e3, if_neg e4, if_neg e5, if_neg e6, if_neg e7]
          have E := Lib.hid e
          have p1 : (kd == 105) = false := by simpa using e1
          have p2 : (kd == 108) = false := by simpa using e2
          have p3 : (kd == 111) = false := by simpa using e3
          have p4 : (kd == 98) = false := by simpa using e4
          have p5 : (kd == 99) = false := by simpa using e5
          have p6 : (kd == 106) = false := by simpa using e6
          have p7 : (kd == 102) = false := by simpa using e7
          clear e e1 e2 e3 e4 e5 e6 e7
          go_wp2
          go_meet
          case rel => exact ⟨-1, rfl, fun h => by rw [E.out, decide_eq_false (by omega), decide_eq_false (by omega)], rfl⟩
        all_goals
          go_wp2
          go_meet
          case rel => exact ⟨_, rfl, fun h => by rw [HCF.out]; simp, rfl⟩
      case rest =>
        obtain ⟨c, rfl, hdec, rfl⟩ := hcut
        obtain ⟨cnt, hcnt⟩ : ∃ cnt, countF C kd = cnt := ⟨_, rfl⟩
        rw [hcnt] at hdec
        have HCT := Lib.hid hcnt
        have HDEC := Lib.hid hdec
        clear hcnt hdec
        clear c0 c1 c2 c3 c4 c5 c6 c7 c8 c9 c10 h0 h1 h2
        generalize hwS : wr.alloc (.cells #[.int .u8 kd, .int .i64 at_, .string nm] 78) = wS at *
        clear hwS
        generalize hgs : wr.heap.size = gs at *
        clear hgs
        go_upto_region 21 with (fail)
        go_cut [7] (fun v7 wx => v7 = .bool (decide (0 ≤ at_) && (decide (at_ < cnt) && decide (1 ≤ nm.size ∧ nm.size ≤ 64))) ∧ wx = wS)
        case first =>
          by_cases a0 : at_ < 0
          · have a1 : decide (0 ≤ at_) = false := decide_eq_false (by omega)
            go_wp2
            go_meet
            case rel => exact ⟨by rw [a1]; rfl, rfl⟩
          · have a1 : (0 : Int) ≤ at_ := by omega
            have hd := HDEC.out a1
            by_cases b0 : at_ < c
            · have hcn : decide (at_ < cnt) = true := by rw [← hd]; exact decide_eq_true b0
              have HCNT := Lib.hid hcn
              clear hcn hd
              by_cases n0 : 1 ≤ nm.size
              · have n1 : (1 : Int) ≤ (nm.size : Int) := by omega
                by_cases n2 : nm.size ≤ 64
                · have n3 : (nm.size : Int) ≤ 64 := by omega
                  go_wp2
                  go_meet
                  case rel => exact ⟨by rw [HCNT.out, decide_eq_true a1, decide_eq_true (And.intro n0 n2)]; rfl, rfl⟩
                · have n3 : decide ((nm.size : Int) ≤ 64) = false := decide_eq_false (by omega)
                  go_wp2
                  go_meet
                  case rel => exact ⟨by rw [decide_eq_false (show ¬ (1 ≤ nm.size ∧ nm.size ≤ 64) by omega)]; simp, rfl⟩
              · have n1 : decide ((1 : Int) ≤ (nm.size : Int)) = false := decide_eq_false (by omega)
                go_wp2
                go_meet
                case rel => exact ⟨by rw [decide_eq_false (show ¬ (1 ≤ nm.size ∧ nm.size ≤ 64) by omega)]; simp, rfl⟩
            · have b1 : decide (at_ < c) = false := decide_eq_false b0
              have hcn : decide (at_ < cnt) = false := by rw [← hd]; exact b1
              have HCNT := Lib.hid hcn
              clear hcn hd
              go_wp2
              go_meet
              case rel => exact ⟨by rw [HCNT.out]; simp, rfl⟩
        case rest =>
          obtain ⟨rfl, rfl⟩ := hcut
          clear g0 g1 g2 g3 g4 g5 g6 g7 g8 g9 g10 s0 s1 s2
          obtain ⟨bo, hbo⟩ : ∃ bo, (decide (0 ≤ at_) && (decide (at_ < cnt) && decide (1 ≤ nm.size ∧ nm.size ≤ 64))) = bo := ⟨_, rfl⟩
          rw [hbo]
          have HBOO := Lib.hid hbo
          clear hbo
          go_wp2
          go_loopg [7, 8] nm.size (fun j ov kv wx => ∃ (k : Nat) (o : Bool), k ≤ nm.size ∧ kv = .int .i64 k ∧ ov = .bool o ∧ j = nm.size - k ∧ o = (bo && lowAll nm k) ∧ SymS w wx w.heap.size gs #[.int .i64 C.max, .slice Ai ni ci, .slice Al nl cl, .slice Ao no co, .slice Ab nb cb, .slice Ac nc cc, .slice Aj nj cj, .slice Af nf cf, Va, .slice (some ⟨b, off, none⟩) n cS, Vt] kd at_ nm)
          case atStart => exact ⟨0, bo, Nat.zero_le _, rfl, rfl, rfl, by simp [lowAll], HSS.out⟩
          case round =>
            obtain ⟨k, o, hk, rfl, rfl, hgk, hoe, hst⟩ := hrel
            subst hgk
            have HOE := Lib.hid hoe
            have HST := Lib.hid hst
            have s2 := HST.out.sym.cell 2
            simp only [List.getElem?_toArray, List.getElem?_cons_zero, List.getElem?_cons_succ] at s2
            clear hoe hst HSS
            have HEND : Hid (¬ (o = true ∧ k < nm.size) → o = (bo && lowAll nm nm.size)) := Lib.hid (fun hne => by
              cases ho : o
              · rw [ho] at HOE
                have h1 := HOE.out
                cases hb : bo
                · rfl
                · rw [hb] at h1
                  simp only [Bool.true_and] at h1 ⊢
                  have : lowAll nm nm.size = false := by
                    unfold lowAll at h1 ⊢
                    rw [eq_comm, List.all_eq_false] at h1
                    rw [List.all_eq_false]
                    obtain ⟨y, hy, hy2⟩ := h1
                    refine ⟨y, ?_, hy2⟩
                    have hsub : nm.data.toList.take k = (nm.data.toList.take nm.size).take k := by rw [List.take_take, Nat.min_eq_left hk]
                    rw [hsub] at hy
                    exact List.mem_of_mem_take hy
                  exact this.symm
              · have : k = nm.size := by
                  rcases Nat.lt_or_ge k nm.size with h | h
                  · exact absurd ⟨ho, h⟩ hne
                  · omega
                rw [← this, ← HOE.out, ho])
            by_cases hgo : o = true ∧ k < nm.size
            · obtain ⟨rfl, hk2⟩ := hgo
              have h1 : (k : Int) < (nm.size : Int) := by omega
              have h3 : (0 : Int) ≤ (k : Int) := by omega
              by_cases hl : 32 ≤ nm[k].toNat
              · have HLW : Hid (decide (32 ≤ nm[k].toNat) = true) := Lib.hid (decide_eq_true hl)
                have h4 : (32 : Int) ≤ (nm[k].toNat : Int) := by omega
                clear hl
                go_wp2
                go_roundg (nm.size - (k + 1))
                case measure => omega
                case rel => exact ⟨k + 1, true, by omega, by go_num, by simp, rfl, by rw [lowAll_snoc hk2, HLW.out, Bool.and_true]; exact HOE.out, HST.out⟩
              · have HLW : Hid (decide (32 ≤ nm[k].toNat) = false) := Lib.hid (decide_eq_false hl)
                have h4 : decide ((32 : Int) ≤ (nm[k].toNat : Int)) = false := decide_eq_false (by omega)
                clear hl
                go_wp2
                go_roundg (nm.size - (k + 1))
                case measure => omega
                case rel => exact ⟨k + 1, false, by omega, by go_num, by first | rfl | simp [h4], rfl, by rw [lowAll_snoc hk2, HLW.out, Bool.and_false, Bool.and_false], HST.out⟩
            · have hoe2 := HEND.out hgo
              have HOF := Lib.hid hoe2
              clear hoe2 HEND
              obtain ⟨r1, hr1⟩ : ∃ r1, (bo && lowAll nm nm.size) = r1 := ⟨_, rfl⟩
              rw [hr1] at HOF
              have HR1 := Lib.hid hr1
              have HSY : Hid (symB C (psK C i) ⟨kd, at_, nm⟩ = (r1 && !((psK C i).contains (kd, at_)))) := Lib.hid (by
                unfold symB
                simp only
                rw [nameB_all, HCT.out, ← hr1, ← HBOO.out, Bool.and_comm]
                simp only [Bool.and_assoc])
              clear hr1
              cases o
              · have hq0 : True := trivial
                go_wp2
                go_loopg [7, 9] i (fun j ov kv wx => ∃ (q : Nat) (o : Bool), q ≤ i ∧ kv = .int .i64 q ∧ ov = .bool o ∧ j = i - q ∧ o = (r1 && !((psK C q).contains (kd, at_))) ∧ SymS w wx w.heap.size gs #[.int .i64 C.max, .slice Ai ni ci, .slice Al nl cl, .slice Ao no co, .slice Ab nb cb, .slice Ac nc cc, .slice Aj nj cj, .slice Af nf cf, Va, .slice (some ⟨b, off, none⟩) n cS, Vt] kd at_ nm)
                case atStart => exact ⟨0, false, Nat.zero_le _, rfl, rfl, rfl, by rw [HOF.out]; simp [psK_zero], HST.out⟩
                case round =>
                  obtain ⟨q, o2, hq, rfl, rfl, hgk, hoe, hst⟩ := hrel
                  subst hgk
                  have HOE2 := Lib.hid hoe
                  have HST2 := Lib.hid hst
                  clear hoe hst HST
                  obtain ⟨g0, g1, g2, g3, g4, g5, g6, g7, g8, g9, g10⟩ := rbox_of HST2.out.box
                  have s0 := HST2.out.sym.cell 0
                  have s1 := HST2.out.sym.cell 1
                  simp only [List.getElem?_toArray, List.getElem?_cons_zero, List.getElem?_cons_succ] at s0 s1
                  have HEND2 : Hid (¬ (o2 = true ∧ q < i) → o2 = symB C (psK C i) ⟨kd, at_, nm⟩) := Lib.hid (fun hne => by
                    rw [HSY.out]
                    cases ho : o2
                    · rw [ho] at HOE2
                      have h1 := HOE2.out
                      cases hb : r1
                      · rfl
                      · rw [hb] at h1
                        simp only [Bool.true_and] at h1 ⊢
                        have hc : (psK C q).contains (kd, at_) = true := by simpa using h1.symm
                        have hm : (kd, at_) ∈ psK C q := by simpa using hc
                        have hm2 : (kd, at_) ∈ psK C i := by
                          unfold psK at hm ⊢
                          rw [List.mem_reverse] at hm ⊢
                          obtain ⟨s, hs, he⟩ := List.mem_map.1 hm
                          refine List.mem_map.2 ⟨s, ?_, he⟩
                          have hsub : C.symbols.take q = (C.symbols.take i).take q := by rw [List.take_take, Nat.min_eq_left hq]
                          rw [hsub] at hs
                          exact List.mem_of_mem_take hs
                        have : (psK C i).contains (kd, at_) = true := by simpa using hm2
                        rw [this]; rfl
                    · have : q = i := by
                        rcases Nat.lt_or_ge q i with h | h
                        · exact absurd ⟨ho, h⟩ hne
                        · omega
                      rw [← this, ← HOE2.out, ho])
                  by_cases hgo : o2 = true ∧ q < i
                  · obtain ⟨rfl, hq2⟩ := hgo
                    have h1 : (q : Int) < (i : Int) := by omega
                    have h3 : (0 : Int) ≤ (q : Int) := by omega
                    have h5 : (q : Int) < (n : Int) := by omega
                    obtain ⟨y, hy⟩ : ∃ y, C.symbols[q]? = some y := ⟨_, List.getElem?_eq_getElem (by rw [HN.out]; omega)⟩
                    obtain ⟨b', off', eA', hb', hcell'⟩ := HS.out q y hy
                    injection eA' with eA'
                    injection eA' with e1 e2 e3
                    subst e1 e2
                    have HY := Lib.hid hy
                    obtain ⟨kq, aq, nq'⟩ := y
                    have y0 := (HST2.out.below.cell (p := ⟨b, off + (q * 3 + 0), none⟩) hb').trans (hcell' 0 _ rfl)
                    have y1 := (HST2.out.below.cell (p := ⟨b, off + (q * 3 + 1), none⟩) hb').trans (hcell' 1 _ rfl)
                    simp only [Nat.add_zero, ← Nat.add_assoc] at y0 y1
                    have HPS : Hid ((psK C (q + 1)).contains (kd, at_) = (((kd, at_) == (kq, aq)) || (psK C q).contains (kd, at_))) := Lib.hid (by rw [psK_snoc HY.out, List.contains_cons])
                    clear hy hcell'
                    by_cases k0 : kq = kd
                    · subst k0
                      have k1 : (kq == kq) = true := by simp
                      have k2 : (kq != kq) = false := by simp
                      by_cases t0 : aq = at_
                      · subst t0
                        have HNX : Hid (false = (r1 && !((psK C (q + 1)).contains (kq, aq)))) := Lib.hid (by rw [HPS.out]; simp)
                        have t1 : (aq == aq) = true := by simp
                        have t2 : (aq != aq) = false := by simp
                        go_wp2
                        go_quiet (fail)
                        go_wp2
                        go_roundg (i - (q + 1))
                        case measure => omega
                        case rel => exact ⟨q + 1, false, by omega, by go_num, by first | rfl | simp, rfl, HNX.out, HST2.out.drewN nq⟩
                      · have HNX : Hid (true = (r1 && !((psK C (q + 1)).contains (kq, at_)))) := Lib.hid (by
                          rw [HPS.out]
                          have : ((kq, at_) == (kq, aq)) = false := by
                            rw [beq_eq_false_iff_ne]
                            intro e
                            injection e with _ e
                            exact t0 e.symm
                          rw [this, Bool.false_or]
                          exact HOE2.out)
                        have t1 : (aq == at_) = false := by simpa using t0
                        have t2 : (aq != at_) = true := by simpa using t0
                        clear t0
                        go_wp2
                        go_quiet (fail)
                        go_wp2
                        go_roundg (i - (q + 1))
                        case measure => omega
                        case rel => exact ⟨q + 1, true, by omega, by go_num, by first | rfl | simp, rfl, HNX.out, HST2.out.drewN nq⟩
                    · have HNX : Hid (true = (r1 && !((psK C (q + 1)).contains (kd, at_)))) := Lib.hid (by
                        rw [HPS.out]
                        have : ((kd, at_) == (kq, aq)) = false := by
                          rw [beq_eq_false_iff_ne]
                          intro e
                          injection e with e _
                          exact k0 e.symm
                        rw [this, Bool.false_or]
                        exact HOE2.out)
                      have t1 : (kq == kd) = false := by simpa using k0
                      have t2 : (kq != kd) = true := by simpa using k0
                      clear k0
                      go_wp2
                      go_quiet (fail)
                      go_wp2
                      go_roundg (i - (q + 1))
                      case measure => omega
                      case rel => exact ⟨q + 1, true, by omega, by go_num, by first | rfl | simp, rfl, HNX.out, HST2.out.drewN nq⟩
                  · have hoe2 := HEND2.out hgo
                    have HOF2 := Lib.hid hoe2
                    clear hoe2 HEND2
                    cases o2
                    · have HFI := Lib.hid (symAll_stop (C := C) HX.out HOF2.out.symm)
                      clear hgo
                      go_wp2
                      go_ret2
                      exact ⟨ret_sym (HR.out.symm.trans (HALL.out.trans HFI.out)), HST2.out.below⟩
                    · have HFI := Lib.hid (symAll_step (C := C) HX.out HOF2.out.symm)
                      have hqi : ¬ (q : Int) < (i : Int) := by
                        intro h
                        exact hgo ⟨rfl, by omega⟩
                      clear hgo
                      go_wp2
                      go_roundg (n - (i + 1))
                      case measure => omega
                      case rel => exact ⟨i + 1, by omega, by go_num, rfl, by rw [HALL.out, HFI.out, psK_snoc HX.out], HST2.out.below, HST2.out.box⟩
              · have hq0 : ¬ (k : Int) < (nm.size : Int) := by
                  intro h
                  exact hgo ⟨rfl, by omega⟩
                go_wp2
                go_loopg [7, 9] i (fun j ov kv wx => ∃ (q : Nat) (o : Bool), q ≤ i ∧ kv = .int .i64 q ∧ ov = .bool o ∧ j = i - q ∧ o = (r1 && !((psK C q).contains (kd, at_))) ∧ SymS w wx w.heap.size gs #[.int .i64 C.max, .slice Ai ni ci, .slice Al nl cl, .slice Ao no co, .slice Ab nb cb, .slice Ac nc cc, .slice Aj nj cj, .slice Af nf cf, Va, .slice (some ⟨b, off, none⟩) n cS, Vt] kd at_ nm)
                case atStart => exact ⟨0, true, Nat.zero_le _, rfl, rfl, rfl, by rw [HOF.out]; simp [psK_zero], HST.out⟩
                case round =>
                  obtain ⟨q, o2, hq, rfl, rfl, hgk, hoe, hst⟩ := hrel
                  subst hgk
                  have HOE2 := Lib.hid hoe
                  have HST2 := Lib.hid hst
                  clear hoe hst HST
                  obtain ⟨g0, g1, g2, g3, g4, g5, g6, g7, g8, g9, g10⟩ := rbox_of HST2.out.box
                  have s0 := HST2.out.sym.cell 0
                  have s1 := HST2.out.sym.cell 1
                  simp only [List.getElem?_toArray, List.getElem?_cons_zero, List.getElem?_cons_succ] at s0 s1
                  have HEND2 : Hid (¬ (o2 = true ∧ q < i) → o2 = symB C (psK C i) ⟨kd, at_, nm⟩) := Lib.hid (fun hne => by
                    rw [HSY.out]
                    cases ho : o2
                    · rw [ho] at HOE2
                      have h1 := HOE2.out
                      cases hb : r1
                      · rfl
                      · rw [hb] at h1
                        simp only [Bool.true_and] at h1 ⊢
                        have hc : (psK C q).contains (kd, at_) = true := by simpa using h1.symm
                        have hm : (kd, at_) ∈ psK C q := by simpa using hc
                        have hm2 : (kd, at_) ∈ psK C i := by
                          unfold psK at hm ⊢
                          rw [List.mem_reverse] at hm ⊢
                          obtain ⟨s, hs, he⟩ := List.mem_map.1 hm
                          refine List.mem_map.2 ⟨s, ?_, he⟩
                          have hsub : C.symbols.take q = (C.symbols.take i).take q := by rw [List.take_take, Nat.min_eq_left hq]
                          rw [hsub] at hs
                          exact List.mem_of_mem_take hs
                        have : (psK C i).contains (kd, at_) = true := by simpa using hm2
                        rw [this]; rfl
                    · have : q = i := by
                        rcases Nat.lt_or_ge q i with h | h
                        · exact absurd ⟨ho, h⟩ hne
                        · omega
                      rw [← this, ← HOE2.out, ho])
                  by_cases hgo : o2 = true ∧ q < i
                  · obtain ⟨rfl, hq2⟩ := hgo
                    have h1 : (q : Int) < (i : Int) := by omega
                    have h3 : (0 : Int) ≤ (q : Int) := by omega
                    have h5 : (q : Int) < (n : Int) := by omega
                    obtain ⟨y, hy⟩ : ∃ y, C.symbols[q]? = some y := ⟨_, List.getElem?_eq_getElem (by rw [HN.out]; omega)⟩
                    obtain ⟨b', off', eA', hb', hcell'⟩ := HS.out q y hy
                    injection eA' with eA'
                    injection eA' with e1 e2 e3
                    subst e1 e2
                    have HY := Lib.hid hy
                    obtain ⟨kq, aq, nq'⟩ := y
                    have y0 := (HST2.out.below.cell (p := ⟨b, off + (q * 3 + 0), none⟩) hb').trans (hcell' 0 _ rfl)
                    have y1 := (HST2.out.below.cell (p := ⟨b, off + (q * 3 + 1), none⟩) hb').trans (hcell' 1 _ rfl)
                    simp only [Nat.add_zero, ← Nat.add_assoc] at y0 y1
                    have HPS : Hid ((psK C (q + 1)).contains (kd, at_) = (((kd, at_) == (kq, aq)) || (psK C q).contains (kd, at_))) := Lib.hid (by rw [psK_snoc HY.out, List.contains_cons])
                    clear hy hcell'
                    by_cases k0 : kq = kd
                    · subst k0
                      have k1 : (kq == kq) = true := by simp
                      have k2 : (kq != kq) = false := by simp
                      by_cases t0 : aq = at_
                      · subst t0
                        have HNX : Hid (false = (r1 && !((psK C (q + 1)).contains (kq, aq)))) := Lib.hid (by rw [HPS.out]; simp)
                        have t1 : (aq == aq) = true := by simp
                        have t2 : (aq != aq) = false := by simp
                        go_wp2
                        go_quiet (fail)
                        go_wp2
                        go_roundg (i - (q + 1))
                        case measure => omega
                        case rel => exact ⟨q + 1, false, by omega, by go_num, by first | rfl | simp, rfl, HNX.out, HST2.out.drewN nq⟩
                      · have HNX : Hid (true = (r1 && !((psK C (q + 1)).contains (kq, at_)))) := Lib.hid (by
                          rw [HPS.out]
                          have : ((kq, at_) == (kq, aq)) = false := by
                            rw [beq_eq_false_iff_ne]
                            intro e
                            injection e with _ e
                            exact t0 e.symm
                          rw [this, Bool.false_or]
                          exact HOE2.out)
                        have t1 : (aq == at_) = false := by simpa using t0
                        have t2 : (aq != at_) = true := by simpa using t0
                        clear t0
                        go_wp2
                        go_quiet (fail)
                        go_wp2
                        go_roundg (i - (q + 1))
                        case measure => omega
                        case rel => exact ⟨q + 1, true, by omega, by go_num, by first | rfl | simp, rfl, HNX.out, HST2.out.drewN nq⟩
                    · have HNX : Hid (true = (r1 && !((psK C (q + 1)).contains (kd, at_)))) := Lib.hid (by
                        rw [HPS.out]
                        have : ((kd, at_) == (kq, aq)) = false := by
                          rw [beq_eq_false_iff_ne]
                          intro e
                          injection e with e _
                          exact k0 e.symm
                        rw [this, Bool.false_or]
                        exact HOE2.out)
                      have t1 : (kq == kd) = false := by simpa using k0
                      have t2 : (kq != kd) = true := by simpa using k0
                      clear k0
                      go_wp2
                      go_quiet (fail)
                      go_wp2
                      go_roundg (i - (q + 1))
                      case measure => omega
                      case rel => exact ⟨q + 1, true, by omega, by go_num, by first | rfl | simp, rfl, HNX.out, HST2.out.drewN nq⟩
                  · have hoe2 := HEND2.out hgo
                    have HOF2 := Lib.hid hoe2
                    clear hoe2 HEND2
                    cases o2
                    · have HFI := Lib.hid (symAll_stop (C := C) HX.out HOF2.out.symm)
                      clear hgo
                      go_wp2
                      go_ret2
                      exact ⟨ret_sym (HR.out.symm.trans (HALL.out.trans HFI.out)), HST2.out.below⟩
                    · have HFI := Lib.hid (symAll_step (C := C) HX.out HOF2.out.symm)
                      have hqi : ¬ (q : Int) < (i : Int) := by
                        intro h
                        exact hgo ⟨rfl, by omega⟩
                      clear hgo
                      go_wp2
                      go_roundg (n - (i + 1))
                      case measure => omega
                      case rel => exact ⟨i + 1, by omega, by go_num, rfl, by rw [HALL.out, HFI.out, psK_snoc HX.out], HST2.out.below, HST2.out.box⟩
    · have : i = n := by omega
      subst this
      go_wp2
      go_ret2
      exact ⟨ret_sym (HR.out.symm.trans (HALL.out.trans (symAll_end (by rw [HN.out]; exact Nat.le_refl _)))), HBL.out⟩
end Go.Proofs.Ytjakckfmdfpekaa

namespace Go.Proofs.Ytjakckfmdfpekaa
open Go.RowKit

theorem hasNl_mem (s : ByteArray) : hasNl s = s.data.toList.contains 10 := (Lib.contains_iff_indexByte _ _).symm
theorem hasNl_at {s : ByteArray} {k : Nat} (hk : k < s.size) (h : s[k].toNat = 10) : hasNl s = true := by
  rw [hasNl_mem, List.contains_iff_mem]
  have hk' : k < s.data.toList.length := by rw [Array.length_toList]; exact hk
  have e : s.data.toList[k] = s[k] := rfl
  have e2 : s[k] = 10 := UInt8.toNat_inj.1 h
  rw [← e2, ← e]
  exact List.getElem_mem hk'
theorem hasNl_none {s : ByteArray} (h : ∀ (k : Nat) (hk : k < s.size), s[k].toNat ≠ 10) : hasNl s = false := by
  rw [hasNl_mem]
  cases hc : s.data.toList.contains 10
  · rfl
  · rw [List.contains_iff_mem] at hc
    obtain ⟨k, hk, he⟩ := List.mem_iff_getElem.1 hc
    have hk' : k < s.size := by rw [Array.length_toList] at hk; exact hk
    have e : s.data.toList[k] = s[k] := rfl
    exact absurd (by rw [← e, he]; rfl) (h k hk')

set_option maxHeartbeats 20000000 in
set_option maxRecDepth 100000 in
theorem rCheck_any (w : World) (V : CV) (C : Circ) (h : C.In w V) (ok : C.Ok) (htn : ∀ s ∈ C.comments, s.size ≤ maxLen) :
    Calls Try.prog 11 #[V.val C.max] w fun e w' => e = .returned (.tuple #[.int .i64 (checkR C).1, .int .i64 (checkR C).2]) ∧ Below w.heap.size w w' := by
  obtain ⟨AA, cA, eA, hal⟩ := len_form h.a
  obtain ⟨AT, cT, eT, htl⟩ := len_form h.t
  obtain ⟨Vi, Vl, Vo, Vb, Vc, Vj, Vf, Va, Vs, Vt⟩ := V
  simp only at eA eT
  subst eA eT
  obtain ⟨mz, hmz⟩ : ∃ mz, C.max = mz := ⟨_, rfl⟩
  have HMZ := Lib.hid hmz
  have HB := Lib.hid ((Below.refl w.heap.size w).alloc (Nat.le_refl _) (.cells #[.int .i64 mz, Vi, Vl, Vo, Vb, Vc, Vj, Vf, .slice AA C.ands.length cA, Vs, .slice AT C.comments.length cT] 29))
  obtain ⟨n, hn⟩ : ∃ n, C.ands.length = n := ⟨_, rfl⟩
  obtain ⟨nT, hnT⟩ : ∃ n, C.comments.length = n := ⟨_, rfl⟩
  rw [hn, hnT] at HB
  rw [hn, hnT] at h ⊢
  rw [hn] at hal
  rw [hnT] at htl
  have HN := Lib.hid hn
  have HNT := Lib.hid hnT
  rw [hmz]
  have HTN := Lib.hid htn
  unfold maxLen at hal htl
  have HIN : Hid (∀ wz, Below (w.alloc (.cells #[.int .i64 mz, Vi, Vl, Vo, Vb, Vc, Vj, Vf, .slice AA n cA, Vs, .slice AT nT cT] 29)).heap.size (w.alloc (.cells #[.int .i64 mz, Vi, Vl, Vo, Vb, Vc, Vj, Vf, .slice AA n cA, Vs, .slice AT nT cT] 29)) wz → C.In wz ⟨Vi, Vl, Vo, Vb, Vc, Vj, Vf, .slice AA n cA, Vs, .slice AT nT cT⟩) := Lib.hid (fun wz hb => (h.below HB.out).below hb)
  have HBX : Hid (∀ wz, Below (w.alloc (.cells #[.int .i64 mz, Vi, Vl, Vo, Vb, Vc, Vj, Vf, .slice AA n cA, Vs, .slice AT nT cT] 29)).heap.size (w.alloc (.cells #[.int .i64 mz, Vi, Vl, Vo, Vb, Vc, Vj, Vf, .slice AA n cA, Vs, .slice AT nT cT] 29)) wz → Blk wz w.heap.size 29 #[.int .i64 mz, Vi, Vl, Vo, Vb, Vc, Vj, Vf, .slice AA n cA, Vs, .slice AT nT cT]) := Lib.hid (fun wz hb => (Blk.new w _ _).below hb (by simp))
  have HX : Hid (Below (w.alloc (.cells #[.int .i64 mz, Vi, Vl, Vo, Vb, Vc, Vj, Vf, .slice AA n cA, Vs, .slice AT nT cT] 29)).heap.size (w.alloc (.cells #[.int .i64 mz, Vi, Vl, Vo, Vb, Vc, Vj, Vf, .slice AA n cA, Vs, .slice AT nT cT] 29)) (w.alloc (.cells #[.int .i64 mz, Vi, Vl, Vo, Vb, Vc, Vj, Vf, .slice AA n cA, Vs, .slice AT nT cT] 29))) := Lib.hid (Below.refl _ _)
  have HEND := Lib.hid (fun (wx : World) (hx : Below (w.alloc (.cells #[.int .i64 mz, Vi, Vl, Vo, Vb, Vc, Vj, Vf, .slice AA n cA, Vs, .slice AT nT cT] 29)).heap.size (w.alloc (.cells #[.int .i64 mz, Vi, Vl, Vo, Vb, Vc, Vj, Vf, .slice AA n cA, Vs, .slice AT nT cT] 29)) wx) => HB.out.trans (hx.mono (by simp)))
  have HSIZE := Lib.hid (fun (wx : World) (hx : C.In wx ⟨Vi, Vl, Vo, Vb, Vc, Vj, Vf, .slice AA n cA, Vs, .slice AT nT cT⟩) => rsize_any wx _ C hx)
  have HSYM := Lib.hid (fun (h16 : C.symbols.length ≤ 16384) (wx : World) (hx : C.In wx ⟨Vi, Vl, Vo, Vb, Vc, Vj, Vf, .slice AA n cA, Vs, .slice AT nT cT⟩) => rsymbols_any wx _ C hx ok h16)
  have HDEF0 := Lib.hid (fun (m : Nat) (hm : m ≤ 16384) (wx : World) (hx : C.In wx ⟨Vi, Vl, Vo, Vb, Vc, Vj, Vf, .slice AA n cA, Vs, .slice AT nT cT⟩) => rDefined_any wx _ C m hx ok hm)
  have HUSE0 := Lib.hid (fun (m : Nat) (hm : m ≤ 16384) (wx : World) (g : Nat) (tb : List Bool) (hx : C.In wx ⟨Vi, Vl, Vo, Vb, Vc, Vj, Vf, .slice AA n cA, Vs, .slice AT nT cT⟩) (ht : Tab wx g tb) (hl : tb.length = m + 1) => ruses_any wx _ C m hx ok g tb ht hl hm)
  have HTOLD0 := Lib.hid (fun (h0 : 0 ≤ C.max) (h1 : C.max ≤ 16384) (h2 : C.ands.length ≤ 16384) (h3 : ∀ z ∈ C.ands, FitT C.max z) (wx : World) (hx : C.In wx ⟨Vi, Vl, Vo, Vb, Vc, Vj, Vf, .slice AA n cA, Vs, .slice AT nT cT⟩) => rtold_any wx _ C hx h0 h1 h2 h3)
  have HGAT0 := Lib.hid (fun (h0 : 0 ≤ C.max) (h1 : C.max ≤ 16384) (h2 : C.ands.length ≤ 16384) (h3 : ∀ z ∈ C.ands, FitT C.max z) (wx : World) (hx : C.In wx ⟨Vi, Vl, Vo, Vb, Vc, Vj, Vf, .slice AA n cA, Vs, .slice AT nT cT⟩) => rgates_any wx _ C hx h0 h1 h2 h3)
  have HRND0 := Lib.hid (fun (h0 : 0 ≤ C.max) (h1 : C.max ≤ 16384) (h2 : C.ands.length ≤ 16384) (h3 : ∀ z ∈ C.ands, FitT C.max z) (wx : World) (gg a : Nat) (hx : C.In wx ⟨Vi, Vl, Vo, Vb, Vc, Vj, Vf, .slice AA n cA, Vs, .slice AT nT cT⟩) (hg : Nums wx gg (gateOf C)) (ha : a < C.ands.length) => rround_any wx _ C gg a hx h0 h1 h2 h3 hg ha)
  obtain ⟨rr, hrr⟩ : ∃ rr, checkR C = rr := ⟨_, rfl⟩
  have HRR := Lib.hid hrr
  rw [hrr]
  clear h ok htn hmz hn hnT hrr
  obtain ⟨s, hs⟩ : ∃ s, sizesE C = s := ⟨_, rfl⟩
  have HS := Lib.hid hs
  clear hs
  rw [HMZ.out] at HSIZE HSYM HTOLD0 HGAT0 HRND0
  by_cases s0 : s = 0
  · subst s0
    have hsz := sizes_ok HS.out
    obtain ⟨hm0, hm1, hna, hns⟩ := hsz
    have HSYM := Lib.hid (HSYM.out hns)
    rw [HMZ.out] at hm0 hm1
    obtain ⟨m, rfl⟩ : ∃ m : Nat, mz = (m : Int) := ⟨mz.toNat, by omega⟩
    have hm2 : m ≤ 16384 := by omega
    have HDEF := Lib.hid (HDEF0.out m hm2)
    have HUSE1 := Lib.hid (HUSE0.out m hm2)
    obtain ⟨tb0, htb0⟩ : ∃ tb, defR C (List.replicate (m + 1) false) = tb := ⟨_, rfl⟩
    obtain ⟨⟨d1, d2⟩, t⟩ := tb0
    have HD := Lib.hid htb0
    have htl0 : t.length = m + 1 := by
      have := defR_len C (List.replicate (m + 1) false)
      rw [htb0] at this
      simpa using this
    have HTL := Lib.hid htl0
    have HDT : Hid (defR C (tab0 C.max.toNat) = ((d1, d2), t.set 0 true)) := Lib.hid (by
      have := defR_tab0 C m
      rw [htb0] at this
      rw [HMZ.out, show ((m : Int)).toNat = m by omega]
      exact this)
    rw [HN.out] at hna
    clear htb0 htl0 hns hm0 hm1 HDEF0 HUSE0
    by_cases d0 : d2 = 0
    · subst d0
      obtain ⟨⟨u1, u2⟩, hu⟩ : ∃ u, usedR C (t.set 0 true) = u := ⟨_, rfl⟩
      have HU := Lib.hid hu
      clear hu
      have HUSE := Lib.hid (fun (wx : World) (g : Nat) (hx : C.In wx ⟨Vi, Vl, Vo, Vb, Vc, Vj, Vf, .slice AA n cA, Vs, .slice AT nT cT⟩) (ht : Tab wx g (t.set 0 true)) => by
        have h1 := HUSE1.out wx g (t.set 0 true) hx ht (by rw [List.length_set]; exact HTL.out)
        rw [show (t.set 0 true).length = m + 1 by rw [List.length_set]; exact HTL.out] at h1
        exact h1)
      clear HUSE1
      by_cases u0 : u2 = 0
      · subst u0
        have hfit : ∀ z ∈ C.ands, FitT C.max z := by
          refine fit_of (tb := tab0 C.max.toNat) (t2 := t.set 0 true) (by rw [HDT.out]) (by rw [HU.out]) ?_ ?_
          · rw [HMZ.out, tab0_len]; omega
          · rw [List.length_set, tab0_len, HMZ.out, HTL.out]; omega
        have hm0 : 0 ≤ C.max := by rw [HMZ.out]; omega
        have hm1 : C.max ≤ 16384 := by rw [HMZ.out]; omega
        have HTOLD := Lib.hid (HTOLD0.out (by rw [← HMZ.out]; exact hm0) (by rw [← HMZ.out]; exact hm1) (by rw [HN.out]; exact hna) (by rw [← HMZ.out]; exact hfit))
        have HGAT := Lib.hid (HGAT0.out (by rw [← HMZ.out]; exact hm0) (by rw [← HMZ.out]; exact hm1) (by rw [HN.out]; exact hna) (by rw [← HMZ.out]; exact hfit))
        have HRND := Lib.hid (HRND0.out (by rw [← HMZ.out]; exact hm0) (by rw [← HMZ.out]; exact hm1) (by rw [HN.out]; exact hna) (by rw [← HMZ.out]; exact hfit))
        have HUO := Lib.hid (usesC_ok hm0 hfit)
        have hUL := usesC_len C
        rw [HN.out] at hUL
        have HUL := Lib.hid hUL
        clear hfit hm0 hm1 HTOLD0 HGAT0 HRND0 hUL
        obtain ⟨f, hf⟩ : ∃ f, firstF (usesC C) = f := ⟨_, rfl⟩
        have HF := Lib.hid hf
        clear hf
        by_cases f0 : f = -1
        · subst f0
          have HLL : Hid (∀ L, Greedy (usesC C) L → (∀ y, ¬ Avail (usesC C) L y) → L.length = n) := Lib.hid (fun L hg ha => by
            have := (stuck_all HUO.out (by rw [HUL.out]; exact hna) hg ha).2 HF.out
            rw [HUL.out] at this
            exact this)
          obtain ⟨⟨y1, y2⟩, hy⟩ : ∃ y, symR C = y := ⟨_, rfl⟩
          have HY := Lib.hid hy
          clear hy
          obtain ⟨c0, c1, c2, c3, c4, c5, c6, c7, c8, c9, c10⟩ := rbox_of (HBX.out _ HX.out)
          by_cases h0 : y2 = 0
          · subst h0
            obtain ⟨cc, hc⟩ : ∃ c, commR C = c := ⟨_, rfl⟩
            have HCO := Lib.hid hc
            clear hc
            have HRS := Lib.hid (checkR_comm HS.out HDT.out rfl HU.out rfl HF.out HY.out rfl HCO.out)
            unfold commR at HCO
            go_enter Try.func11, Try.ntmps11
            go_upto_region 10 with (first | (go_at_call 37; refine (HSIZE.out _ (HIN.out _ HX.out)).mono ?_; rw [HS.out]; rintro e w1 ⟨rfl, hb⟩; have HXN := Lib.hid (bt HX.out (Nat.le_refl _) hb); clear hb HX; have HX := HXN; clear HXN; clear c0 c1 c2 c3 c4 c5 c6 c7 c8 c9 c10; obtain ⟨c0, c1, c2, c3, c4, c5, c6, c7, c8, c9, c10⟩ := rbox_of (HBX.out _ HX.out)) | (go_at_call 38; refine (HDEF.out _ (HIN.out _ HX.out)).mono ?_; rw [HD.out]; rintro e w1 ⟨v, rfl, hb, htb⟩; obtain ⟨g, rfl, htab⟩ := htb rfl; have HTB := Lib.hid htab; clear htab htb; have HXN := Lib.hid (bt HX.out (Nat.le_refl _) hb); clear hb HX; have HX := HXN; clear HXN; clear c0 c1 c2 c3 c4 c5 c6 c7 c8 c9 c10; obtain ⟨c0, c1, c2, c3, c4, c5, c6, c7, c8, c9, c10⟩ := rbox_of (HBX.out _ HX.out)) | (go_at_call 39; refine (HUSE.out _ g (HIN.out _ HX.out) HTB.out).mono ?_; rw [HU.out]; rintro e w1 ⟨rfl, hb⟩; have HXN := Lib.hid (bt HX.out (Nat.le_refl _) hb); clear hb HX; have HX := HXN; clear HXN; clear c0 c1 c2 c3 c4 c5 c6 c7 c8 c9 c10; obtain ⟨c0, c1, c2, c3, c4, c5, c6, c7, c8, c9, c10⟩ := rbox_of (HBX.out _ HX.out)))
            go_region_held3 (fun w' => w'.cell? ⟨w.heap.size, 0, none⟩ = some (.int .i64 m) ∧ w'.cell? ⟨w.heap.size, 1, none⟩ = some (Vi) ∧ w'.cell? ⟨w.heap.size, 2, none⟩ = some (Vl) ∧ w'.cell? ⟨w.heap.size, 3, none⟩ = some (Vo) ∧ w'.cell? ⟨w.heap.size, 4, none⟩ = some (Vb) ∧ w'.cell? ⟨w.heap.size, 5, none⟩ = some (Vc) ∧ w'.cell? ⟨w.heap.size, 6, none⟩ = some (Vj) ∧ w'.cell? ⟨w.heap.size, 7, none⟩ = some (Vf) ∧ w'.cell? ⟨w.heap.size, 8, none⟩ = some (.slice AA n cA) ∧ w'.cell? ⟨w.heap.size, 9, none⟩ = some (Vs) ∧ w'.cell? ⟨w.heap.size, 10, none⟩ = some (.slice AT nT cT)) (first | exact ⟨c0, c1, c2, c3, c4, c5, c6, c7, c8, c9, c10⟩ | exact rbox_of (HBX.out _ HX.out) | exact rbox_of (HBX.out _ HX.out.drew) | go_keep)
              (first
                | (go_at_call 40; refine (HTOLD.out _ (HIN.out _ HX.out.drew)).mono ?_; rintro e w5 ⟨v5, L, rfl, hown, hgr, hav, hb⟩; obtain ⟨Ao, co, rfl⟩ := own_slice hown; have hll := HLL.out L hgr hav; have HXN := Lib.hid (bt HX.out.drew (Nat.le_refl _) hb); clear hb HX; have HX := HXN; clear HXN hown hgr hav; clear c0 c1 c2 c3 c4 c5 c6 c7 c8 c9 c10; obtain ⟨c0, c1, c2, c3, c4, c5, c6, c7, c8, c9, c10⟩ := rbox_of (HBX.out _ HX.out)))
            rw [hll] at *
            have HLN : Hid True := Lib.hid trivial
            go_wp2_with (first | (go_at_call 43; refine (HSYM.out _ (HIN.out _ HX.out)).mono ?_; rw [HY.out]; rintro e w1 ⟨rfl, hb⟩; have HXN := Lib.hid (bt HX.out (Nat.le_refl _) hb); clear hb HX; have HX := HXN; clear HXN; clear c0 c1 c2 c3 c4 c5 c6 c7 c8 c9 c10; obtain ⟨c0, c1, c2, c3, c4, c5, c6, c7, c8, c9, c10⟩ := rbox_of (HBX.out _ HX.out)))
            have HXC := Lib.hid HX.out
            generalize hw1 : w1 = wc at *
            clear hw1
            go_loopg [14] nT (fun j iv wx => ∃ i : Nat, i ≤ nT ∧ iv = .int .i64 i ∧ j = nT - i ∧ wx = wc ∧ firstE commE C.comments 0 = firstE commE (C.comments.drop i) i)
            case atStart => exact ⟨0, Nat.zero_le _, rfl, rfl, rfl, rfl⟩
            case round =>
              obtain ⟨i, hi, rfl, hgk, rfl, hall⟩ := hrel
              subst hgk
              have HALL := Lib.hid hall
              clear hall
              by_cases hlt : i < nT
              · have hx := List.getElem?_eq_getElem (l := C.comments) (i := i) (by rw [HNT.out]; exact hlt)
                generalize C.comments[i]'(by rw [HNT.out]; exact hlt) = x at hx
                obtain ⟨A', c', eA', _, _, hrun⟩ := (HIN.out _ HXC.out).t
                injection eA' with g1 g2 g3
                subst g1
                clear g2 g3
                obtain ⟨b, off, rfl, hb, hcell⟩ := hrun i x hx
                have i0 := hcell 0 _ rfl
                simp only [Nat.mul_one, Nat.add_zero] at i0
                have hxl := HTN.out x (List.mem_of_getElem? hx)
                unfold maxLen at hxl
                have HX3 := Lib.hid hx
                have hk0 : (0 : Int) ≤ (i : Int) := by omega
                have hk1 : (i : Int) < (nT : Int) := by omega
                clear hx hcell hrun
                go_wp2
                go_loopg [15] x.size (fun j kv wx => ∃ k : Nat, k ≤ x.size ∧ kv = .int .i64 k ∧ j = x.size - k ∧ wx = wr ∧ ∀ (q : Nat) (hq : q < x.size), q < k → x[q].toNat ≠ 10)
                case atStart => exact ⟨0, Nat.zero_le _, rfl, rfl, rfl, fun q _ h => by omega⟩
                case round =>
                  obtain ⟨k, hk, rfl, hgk, rfl, hno⟩ := hrel
                  subst hgk
                  have HNO := Lib.hid hno
                  clear hno
                  by_cases hkl : k < x.size
                  · have h3 : (0 : Int) ≤ (k : Int) := by omega
                    have h4 : (k : Int) < (x.size : Int) := by omega
                    by_cases hten : x[k].toNat = 10
                    · have HC := Lib.hid (commE_yes (hasNl_at hkl hten))
                      have t1 : ((x[k].toNat : Int) == 10) = true := by rw [hten]; rfl
                      clear hten
                      go_wp2
                      go_ret2
                      have hs := firstE_stop HX3.out (f := commE) (by rw [HC.out]; decide)
                      rw [HC.out] at hs
                      exact ⟨ret_check (by rw [← HRR.out, HRS.out]; exact HCO.out.symm.trans (HALL.out.trans hs)), HEND.out _ HXC.out⟩
                    · have t1 : ((x[k].toNat : Int) == 10) = false := by simp; omega
                      have HTE := Lib.hid hten
                      clear hten
                      go_wp2
                      go_roundg (x.size - (k + 1))
                      case measure => omega
                      case rel => exact ⟨k + 1, by omega, by go_num, rfl, rfl, fun q hq h => by
                        rcases Nat.lt_or_ge q k with h2 | h2
                        · exact HNO.out q hq h2
                        · have : q = k := by omega
                          subst this
                          exact HTE.out⟩
                  · have HC := Lib.hid (commE_no (hasNl_none (s := x) (fun q hq => HNO.out q hq (by omega))))
                    have h4 : ¬ (k : Int) < (x.size : Int) := by omega
                    go_wp2
                    go_roundg (nT - (i + 1))
                    case measure => omega
                    case rel => exact ⟨i + 1, by omega, by go_num, rfl, rfl, by rw [HALL.out]; exact firstE_step HX3.out HC.out⟩
              · have hie : i = nT := by omega
                subst hie
                go_wp2
                go_ret2
                exact ⟨ret_check (by rw [← HRR.out, HRS.out]; exact HCO.out.symm.trans (HALL.out.trans (firstE_end (by rw [HNT.out]; exact Nat.le_refl _)))), HEND.out _ HXC.out⟩
          · have HRS := Lib.hid (checkR_sym HS.out HDT.out rfl HU.out rfl HF.out HY.out h0)
            have q1 : (y2 == 0) = false := by simpa using h0
            have q2 : (y2 != 0) = true := by simpa using h0
            clear h0
            go_enter Try.func11, Try.ntmps11
            go_upto_region 10 with (first | (go_at_call 37; refine (HSIZE.out _ (HIN.out _ HX.out)).mono ?_; rw [HS.out]; rintro e w1 ⟨rfl, hb⟩; have HXN := Lib.hid (bt HX.out (Nat.le_refl _) hb); clear hb HX; have HX := HXN; clear HXN; clear c0 c1 c2 c3 c4 c5 c6 c7 c8 c9 c10; obtain ⟨c0, c1, c2, c3, c4, c5, c6, c7, c8, c9, c10⟩ := rbox_of (HBX.out _ HX.out)) | (go_at_call 38; refine (HDEF.out _ (HIN.out _ HX.out)).mono ?_; rw [HD.out]; rintro e w1 ⟨v, rfl, hb, htb⟩; obtain ⟨g, rfl, htab⟩ := htb rfl; have HTB := Lib.hid htab; clear htab htb; have HXN := Lib.hid (bt HX.out (Nat.le_refl _) hb); clear hb HX; have HX := HXN; clear HXN; clear c0 c1 c2 c3 c4 c5 c6 c7 c8 c9 c10; obtain ⟨c0, c1, c2, c3, c4, c5, c6, c7, c8, c9, c10⟩ := rbox_of (HBX.out _ HX.out)) | (go_at_call 39; refine (HUSE.out _ g (HIN.out _ HX.out) HTB.out).mono ?_; rw [HU.out]; rintro e w1 ⟨rfl, hb⟩; have HXN := Lib.hid (bt HX.out (Nat.le_refl _) hb); clear hb HX; have HX := HXN; clear HXN; clear c0 c1 c2 c3 c4 c5 c6 c7 c8 c9 c10; obtain ⟨c0, c1, c2, c3, c4, c5, c6, c7, c8, c9, c10⟩ := rbox_of (HBX.out _ HX.out)))
            go_region_held3 (fun w' => w'.cell? ⟨w.heap.size, 0, none⟩ = some (.int .i64 m) ∧ w'.cell? ⟨w.heap.size, 1, none⟩ = some (Vi) ∧ w'.cell? ⟨w.heap.size, 2, none⟩ = some (Vl) ∧ w'.cell? ⟨w.heap.size, 3, none⟩ = some (Vo) ∧ w'.cell? ⟨w.heap.size, 4, none⟩ = some (Vb) ∧ w'.cell? ⟨w.heap.size, 5, none⟩ = some (Vc) ∧ w'.cell? ⟨w.heap.size, 6, none⟩ = some (Vj) ∧ w'.cell? ⟨w.heap.size, 7, none⟩ = some (Vf) ∧ w'.cell? ⟨w.heap.size, 8, none⟩ = some (.slice AA n cA) ∧ w'.cell? ⟨w.heap.size, 9, none⟩ = some (Vs) ∧ w'.cell? ⟨w.heap.size, 10, none⟩ = some (.slice AT nT cT)) (first | exact ⟨c0, c1, c2, c3, c4, c5, c6, c7, c8, c9, c10⟩ | exact rbox_of (HBX.out _ HX.out) | exact rbox_of (HBX.out _ HX.out.drew) | go_keep)
              (first
                | (go_at_call 40; refine (HTOLD.out _ (HIN.out _ HX.out.drew)).mono ?_; rintro e w5 ⟨v5, L, rfl, hown, hgr, hav, hb⟩; obtain ⟨Ao, co, rfl⟩ := own_slice hown; have hll := HLL.out L hgr hav; have HXN := Lib.hid (bt HX.out.drew (Nat.le_refl _) hb); clear hb HX; have HX := HXN; clear HXN hown hgr hav; clear c0 c1 c2 c3 c4 c5 c6 c7 c8 c9 c10; obtain ⟨c0, c1, c2, c3, c4, c5, c6, c7, c8, c9, c10⟩ := rbox_of (HBX.out _ HX.out)))
            rw [hll] at *
            go_wp2_with (first | (go_at_call 43; refine (HSYM.out _ (HIN.out _ HX.out)).mono ?_; rw [HY.out]; rintro e w1 ⟨rfl, hb⟩; have HXN := Lib.hid (bt HX.out (Nat.le_refl _) hb); clear hb HX; have HX := HXN; clear HXN; clear c0 c1 c2 c3 c4 c5 c6 c7 c8 c9 c10; obtain ⟨c0, c1, c2, c3, c4, c5, c6, c7, c8, c9, c10⟩ := rbox_of (HBX.out _ HX.out)))
            go_ret2
            exact ⟨ret_check (by rw [← HRR.out, HRS.out]), HEND.out _ HX.out⟩
        · have HRS := Lib.hid (checkR_round HS.out HDT.out rfl HU.out rfl HF.out f0)
          have hcyc := firstF_some HUO.out (by rw [HUL.out]; exact hna) (by rw [HF.out]; exact f0)
          rw [HF.out, HUL.out] at hcyc
          have HLST : Hid (∀ x, InR n x → Cyc (usesC C) x → f ≤ x) := Lib.hid (fun x hx hc => by
            have := (firstF_least HUO.out (by rw [HUL.out]; exact hna) (by rw [HUL.out]; exact hx) hc).2
            rwa [HF.out] at this)
          have HLL : Hid (∀ L, Greedy (usesC C) L → (∀ y, ¬ Avail (usesC C) L y) → (L.length : Int) < (n : Int)) := Lib.hid (fun L hg ha => by
            have h1 := stuck_all HUO.out (by rw [HUL.out]; exact hna) hg ha
            have h2 := hg.len_le
            rw [HUL.out] at h1 h2
            have h3 : ¬ L.length = n := fun e => f0 (by rw [← HF.out]; exact h1.1 e)
            omega)
          have HCYC := Lib.hid hcyc
          clear hcyc f0
          obtain ⟨c0, c1, c2, c3, c4, c5, c6, c7, c8, c9, c10⟩ := rbox_of (HBX.out _ HX.out)
          go_enter Try.func11, Try.ntmps11
          go_upto_region 10 with (first | (go_at_call 37; refine (HSIZE.out _ (HIN.out _ HX.out)).mono ?_; rw [HS.out]; rintro e w1 ⟨rfl, hb⟩; have HXN := Lib.hid (bt HX.out (Nat.le_refl _) hb); clear hb HX; have HX := HXN; clear HXN; clear c0 c1 c2 c3 c4 c5 c6 c7 c8 c9 c10; obtain ⟨c0, c1, c2, c3, c4, c5, c6, c7, c8, c9, c10⟩ := rbox_of (HBX.out _ HX.out)) | (go_at_call 38; refine (HDEF.out _ (HIN.out _ HX.out)).mono ?_; rw [HD.out]; rintro e w1 ⟨v, rfl, hb, htb⟩; obtain ⟨g, rfl, htab⟩ := htb rfl; have HTB := Lib.hid htab; clear htab htb; have HXN := Lib.hid (bt HX.out (Nat.le_refl _) hb); clear hb HX; have HX := HXN; clear HXN; clear c0 c1 c2 c3 c4 c5 c6 c7 c8 c9 c10; obtain ⟨c0, c1, c2, c3, c4, c5, c6, c7, c8, c9, c10⟩ := rbox_of (HBX.out _ HX.out)) | (go_at_call 39; refine (HUSE.out _ g (HIN.out _ HX.out) HTB.out).mono ?_; rw [HU.out]; rintro e w1 ⟨rfl, hb⟩; have HXN := Lib.hid (bt HX.out (Nat.le_refl _) hb); clear hb HX; have HX := HXN; clear HXN; clear c0 c1 c2 c3 c4 c5 c6 c7 c8 c9 c10; obtain ⟨c0, c1, c2, c3, c4, c5, c6, c7, c8, c9, c10⟩ := rbox_of (HBX.out _ HX.out)))
          go_region_held3 (fun w' => w'.cell? ⟨w.heap.size, 0, none⟩ = some (.int .i64 m) ∧ w'.cell? ⟨w.heap.size, 1, none⟩ = some (Vi) ∧ w'.cell? ⟨w.heap.size, 2, none⟩ = some (Vl) ∧ w'.cell? ⟨w.heap.size, 3, none⟩ = some (Vo) ∧ w'.cell? ⟨w.heap.size, 4, none⟩ = some (Vb) ∧ w'.cell? ⟨w.heap.size, 5, none⟩ = some (Vc) ∧ w'.cell? ⟨w.heap.size, 6, none⟩ = some (Vj) ∧ w'.cell? ⟨w.heap.size, 7, none⟩ = some (Vf) ∧ w'.cell? ⟨w.heap.size, 8, none⟩ = some (.slice AA n cA) ∧ w'.cell? ⟨w.heap.size, 9, none⟩ = some (Vs) ∧ w'.cell? ⟨w.heap.size, 10, none⟩ = some (.slice AT nT cT)) (first | exact ⟨c0, c1, c2, c3, c4, c5, c6, c7, c8, c9, c10⟩ | exact rbox_of (HBX.out _ HX.out) | exact rbox_of (HBX.out _ HX.out.drew) | go_keep)
            (first
              | (go_at_call 40; refine (HTOLD.out _ (HIN.out _ HX.out.drew)).mono ?_; rintro e w5 ⟨v5, L, rfl, hown, hgr, hav, hb⟩; obtain ⟨Ao, co, rfl⟩ := own_slice hown; have hll := HLL.out L hgr hav; have HXN := Lib.hid (bt HX.out.drew (Nat.le_refl _) hb); clear hb HX; have HX := HXN; clear HXN hown hgr hav; clear c0 c1 c2 c3 c4 c5 c6 c7 c8 c9 c10; obtain ⟨c0, c1, c2, c3, c4, c5, c6, c7, c8, c9, c10⟩ := rbox_of (HBX.out _ HX.out)))
          go_wp2_with (first | (go_at_call 41; refine (HGAT.out _ (HIN.out _ HX.out)).mono ?_; rintro e w1 ⟨gg, rfl, hgg, hb, hnum⟩; have HNUM := Lib.hid hnum; clear hnum hgg; have HXN := Lib.hid (bt HX.out (Nat.le_refl _) hb); clear hb HX; have HX := HXN; clear HXN; clear c0 c1 c2 c3 c4 c5 c6 c7 c8 c9 c10; obtain ⟨c0, c1, c2, c3, c4, c5, c6, c7, c8, c9, c10⟩ := rbox_of (HBX.out _ HX.out)))
          have HXG := Lib.hid HX.out
          have HG0 := Lib.hid HNUM.out
          generalize hw1 : w1 = wg at *
          clear hw1
          go_loopg [11] n (fun j iv wx => ∃ i : Nat, i ≤ n ∧ iv = .int .i64 i ∧ j = n - i ∧ (∀ x : Int, 0 ≤ x → x < (i : Int) → ¬ Cyc (usesC C) x) ∧ Below wg.heap.size wg wx)
          case atStart => exact ⟨0, Nat.zero_le _, rfl, rfl, fun x h0 h1 => by omega, Below.refl _ _⟩
          case round =>
            obtain ⟨i, hi, rfl, hgk, hno, hbl⟩ := hrel
            subst hgk
            have HNO := Lib.hid hno
            have HBL := Lib.hid hbl
            clear hno hbl HX c0 c1 c2 c3 c4 c5 c6 c7 c8 c9 c10
            have HX := Lib.hid (bt HXG.out (Nat.le_refl _) HBL.out)
            obtain ⟨c0, c1, c2, c3, c4, c5, c6, c7, c8, c9, c10⟩ := rbox_of (HBX.out _ HX.out)
            by_cases hlt : i < n
            · have hrn := HRND.out wr gg i (HIN.out _ HX.out) (Blk.below HG0.out HBL.out (Blk.lt HG0.out)) (by rw [HN.out]; exact hlt)
              rw [show ((m : Int)).toNat = m by omega] at hrn
              have HRN := Lib.hid hrn
              clear hrn
              by_cases hfe : (i : Int) = f
              · have HTC : Hid (Cyc (usesC C) (i : Int)) := Lib.hid (by rw [hfe]; exact HCYC.out.2)
                have HFE := Lib.hid hfe
                clear hfe
                go_wp2_with (go_at_call 42; refine HRN.out.mono ?_; rintro e w6 ⟨bl, rfl, hbl, hb6⟩; have hbt := hbl.2 HTC.out; subst hbt; have HB6 := Lib.hid hb6; clear hb6 hbl)
                go_ret2
                exact ⟨ret_check (by rw [← HRR.out, HRS.out, HFE.out]), HEND.out _ (bt HX.out (Nat.le_refl _) HB6.out)⟩
              · have HNC : Hid (¬ Cyc (usesC C) (i : Int)) := Lib.hid (fun hc => by
                  have h1 := HLST.out (i : Int) ⟨by omega, by omega⟩ hc
                  rcases Int.lt_or_eq_of_le h1 with h2 | h2
                  · exact HNO.out f HCYC.out.1.1 h2 HCYC.out.2
                  · exact hfe h2.symm)
                clear hfe
                go_wp2_with (go_at_call 42; refine HRN.out.mono ?_; rintro e w6 ⟨bl, rfl, hbl, hb6⟩; have hbt : bl = false := (by cases bl; rfl; exact absurd (hbl.1 rfl) HNC.out); subst hbt; have HB6 := Lib.hid hb6; clear hb6 hbl)
                go_roundg (n - (i + 1))
                case measure => omega
                case rel => exact ⟨i + 1, by omega, by go_num, rfl, fun x h0 h1 => by
                  rcases Int.lt_or_le x (i : Int) with h2 | h2
                  · exact HNO.out x h0 h2
                  · have : x = (i : Int) := by omega
                    rw [this]; exact HNC.out, bt HBL.out (Nat.le_refl _) HB6.out⟩
            · exact absurd HCYC.out.2 (HNO.out f HCYC.out.1.1 (by have := HCYC.out.1.2; omega))
      · have HRS := Lib.hid (checkR_use HS.out HDT.out rfl HU.out u0)
        have q1 : (u2 == 0) = false := by simpa using u0
        have q2 : (u2 != 0) = true := by simpa using u0
        clear u0
        obtain ⟨c0, c1, c2, c3, c4, c5, c6, c7, c8, c9, c10⟩ := rbox_of (HBX.out _ HX.out)
        go_enter Try.func11, Try.ntmps11
        go_wp2_with (first | (go_at_call 37; refine (HSIZE.out _ (HIN.out _ HX.out)).mono ?_; rw [HS.out]; rintro e w1 ⟨rfl, hb⟩; have HXN := Lib.hid (bt HX.out (Nat.le_refl _) hb); clear hb HX; have HX := HXN; clear HXN; clear c0 c1 c2 c3 c4 c5 c6 c7 c8 c9 c10; obtain ⟨c0, c1, c2, c3, c4, c5, c6, c7, c8, c9, c10⟩ := rbox_of (HBX.out _ HX.out)) | (go_at_call 38; refine (HDEF.out _ (HIN.out _ HX.out)).mono ?_; rw [HD.out]; rintro e w1 ⟨v, rfl, hb, htb⟩; obtain ⟨g, rfl, htab⟩ := htb rfl; have HTB := Lib.hid htab; clear htab htb; have HXN := Lib.hid (bt HX.out (Nat.le_refl _) hb); clear hb HX; have HX := HXN; clear HXN; clear c0 c1 c2 c3 c4 c5 c6 c7 c8 c9 c10; obtain ⟨c0, c1, c2, c3, c4, c5, c6, c7, c8, c9, c10⟩ := rbox_of (HBX.out _ HX.out)) | (go_at_call 39; refine (HUSE.out _ g (HIN.out _ HX.out) HTB.out).mono ?_; rw [HU.out]; rintro e w1 ⟨rfl, hb⟩; have HXN := Lib.hid (bt HX.out (Nat.le_refl _) hb); clear hb HX; have HX := HXN; clear HXN; clear c0 c1 c2 c3 c4 c5 c6 c7 c8 c9 c10; obtain ⟨c0, c1, c2, c3, c4, c5, c6, c7, c8, c9, c10⟩ := rbox_of (HBX.out _ HX.out)))
        go_ret2
        exact ⟨ret_check (by rw [← HRR.out, HRS.out]), HEND.out _ HX.out⟩
    · have HRS := Lib.hid (checkR_def HS.out HDT.out d0)
      have q1 : (d2 == 0) = false := by simpa using d0
      have q2 : (d2 != 0) = true := by simpa using d0
      clear d0
      obtain ⟨c0, c1, c2, c3, c4, c5, c6, c7, c8, c9, c10⟩ := rbox_of (HBX.out _ HX.out)
      go_enter Try.func11, Try.ntmps11
      go_wp2_with (first | (go_at_call 37; refine (HSIZE.out _ (HIN.out _ HX.out)).mono ?_; rw [HS.out]; rintro e w1 ⟨rfl, hb⟩; have HXN := Lib.hid (bt HX.out (Nat.le_refl _) hb); clear hb HX; have HX := HXN; clear HXN; clear c0 c1 c2 c3 c4 c5 c6 c7 c8 c9 c10; obtain ⟨c0, c1, c2, c3, c4, c5, c6, c7, c8, c9, c10⟩ := rbox_of (HBX.out _ HX.out)) | (go_at_call 38; refine (HDEF.out _ (HIN.out _ HX.out)).mono ?_; rw [HD.out]; rintro e w1 ⟨v, rfl, hb, htb⟩; have HTB := Lib.hid htb; clear htb; have HXN := Lib.hid (bt HX.out (Nat.le_refl _) hb); clear hb HX; have HX := HXN; clear HXN; clear c0 c1 c2 c3 c4 c5 c6 c7 c8 c9 c10; obtain ⟨c0, c1, c2, c3, c4, c5, c6, c7, c8, c9, c10⟩ := rbox_of (HBX.out _ HX.out)))
      go_ret2
      exact ⟨ret_check (by rw [← HRR.out, HRS.out]), HEND.out _ HX.out⟩
  · have HRS := Lib.hid (checkR_size (by rw [HS.out]; exact s0))
    have q1 : (s == 0) = false := by simpa using s0
    have q2 : (s != 0) = true := by simpa using s0
    clear s0
    obtain ⟨c0, c1, c2, c3, c4, c5, c6, c7, c8, c9, c10⟩ := rbox_of (HBX.out _ HX.out)
    go_enter Try.func11, Try.ntmps11
    go_wp2_with (first | (go_at_call 37; refine (HSIZE.out _ (HIN.out _ HX.out)).mono ?_; rw [HS.out]; rintro e w1 ⟨rfl, hb⟩; have HXN := Lib.hid (bt HX.out (Nat.le_refl _) hb); clear hb HX; have HX := HXN; clear HXN; clear c0 c1 c2 c3 c4 c5 c6 c7 c8 c9 c10; obtain ⟨c0, c1, c2, c3, c4, c5, c6, c7, c8, c9, c10⟩ := rbox_of (HBX.out _ HX.out)))
    go_ret2
    exact ⟨ret_check (by rw [← HRR.out, HRS.out, HS.out]), HEND.out _ HX.out⟩
end Go.Proofs.Ytjakckfmdfpekaa

namespace Go.Proofs.Ytjakckfmdfpekaa
open Go.RowKit

set_option maxHeartbeats 1000000 in
set_option maxRecDepth 100000 in
theorem rOrder_any (w : World) (V : CV) (C : Circ) (h : C.In w V) (ok : C.Ok) (htn : ∀ s ∈ C.comments, s.size ≤ maxLen) :
    Calls Try.prog 13 #[V.val C.max] w fun e w' => Below w.heap.size w w' ∧ ∃ v out, e = .returned (.tuple #[v, .int .i64 (checkR C).2]) ∧ ((checkR C).2 ≠ 0 → v = .slice none 0 0) ∧
      ((checkR C).2 = 0 → w'.ownsRow w.heap.size 3 1 v out.length (out.map (Value.int .i64)) ∧ Greedy (usesC C) out ∧ out.length = C.ands.length) := by
  have HB := Lib.hid ((Below.refl w.heap.size w).alloc (Nat.le_refl _) (.cells (V.cells C.max) 29))
  have hin := h.below HB.out
  have hck := rCheck_any _ V C hin ok htn
  obtain ⟨a, r, hr⟩ : ∃ a r, checkR C = (a, r) := ⟨_, _, rfl⟩
  have HRR := Lib.hid hr
  obtain ⟨m, hmm⟩ : ∃ m, C.max = m := ⟨_, rfl⟩
  have HMM := Lib.hid hmm
  obtain ⟨Vi, Vl, Vo, Vb, Vc, Vj, Vf, Va, Vs, Vt⟩ := V
  rw [hr, hmm] at hck
  rw [hmm] at hin HB
  rw [hr]
  have HCK := Lib.hid hck
  have HIN := Lib.hid hin
  rw [hmm]
  simp only
  have HBX : Hid (Blk (w.alloc (.cells #[.int .i64 m, Vi, Vl, Vo, Vb, Vc, Vj, Vf, Va, Vs, Vt] 29)) w.heap.size 29 #[.int .i64 m, Vi, Vl, Vo, Vb, Vc, Vj, Vf, Va, Vs, Vt]) := Lib.hid (Blk.new _ _ _)
  obtain ⟨c0, c1, c2, c3, c4, c5, c6, c7, c8, c9, c10⟩ := rbox_of HBX.out
  clear hck hin h ok hr hmm
  by_cases h0 : r = 0
  · subst h0
    have hrt := right_of (C := C) (by rw [HRR.out])
    have HRT := Lib.hid hrt
    clear hrt
    go_enter Try.func13, Try.ntmps13
    go_wp2_with (first
      | (go_at_call 11; refine HCK.out.mono ?_; rintro e w1 ⟨rfl, hb1⟩; have HB1 := Lib.hid hb1; have HH := Lib.hid ((HB.out.trans (HB1.out.mono (by simp))).size); clear c0 c1 c2 c3 c4 c5 c6 c7 c8 c9 c10; obtain ⟨c0, c1, c2, c3, c4, c5, c6, c7, c8, c9, c10⟩ := rbox_of (HBX.out.below hb1 HBX.out.lt); clear hb1)
      | (go_at_call 40; have ho := rtold_any w1 _ C (HIN.out.below HB1.out) HRT.out.m0 HRT.out.m1 HRT.out.na HRT.out.fit; rw [HMM.out] at ho; refine ho.mono ?_; rintro e w3 ⟨v3, out, rfl, ho3, hg3, hs3, hb3⟩; clear ho))
    go_ret2
    have hl3 := (stuck_all HRT.out.uok (by rw [usesC_len]; exact HRT.out.na) hg3 hs3).2 HRT.out.acy
    rw [usesC_len] at hl3
    exact ⟨(HB.out.trans (HB1.out.mono (by simp))).trans (hb3.mono HH.out), v3, out, rfl, fun h => absurd rfl h, fun _ => ⟨own_base ho3 HH.out, hg3, hl3⟩⟩
  · have hq : (r != 0) = true := by simpa using h0
    have H0 := Lib.hid h0
    clear h0
    go_enter Try.func13, Try.ntmps13
    go_wp2_with (go_at_call 11; refine HCK.out.mono ?_; rintro e w1 ⟨rfl, hb1⟩; have HB1 := Lib.hid hb1; clear hb1)
    go_ret2
    exact ⟨HB.out.trans (HB1.out.mono (by simp)), .slice none 0 0, [], rfl, fun _ => rfl, fun h => absurd h H0.out⟩
/-- The least one that may come is always the next: there is one such order alone. -/
theorem greedy_same {uses : List (Int × Int)} : ∀ (n : Nat) {L M : List Int}, Greedy uses L → Greedy uses M → L.length = n → M.length = n → L = M
  | 0, L, M, _, _, hl, hm => by rw [List.eq_nil_of_length_eq_zero hl, List.eq_nil_of_length_eq_zero hm]
  | n + 1, L, M, hL, hM, hl, hm => by
    cases hL with
    | nil => simp at hl
    | snoc hL1 ha1 hle1 =>
      cases hM with
      | nil => simp at hm
      | snoc hM1 ha2 hle2 =>
        have e := greedy_same n hL1 hM1 (by simp at hl; exact hl) (by simp at hm; exact hm)
        subst e
        have h1 := hle1 _ ha2
        have h2 := hle2 _ ha1
        rw [Int.le_antisymm h1 h2]
end Go.Proofs.Ytjakckfmdfpekaa

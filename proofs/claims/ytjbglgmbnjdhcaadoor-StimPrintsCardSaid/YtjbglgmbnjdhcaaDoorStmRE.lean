/- Stim: the walk of StimPrints. -/
import Derived.Test.YtjbglgmbnjdhcaaDoorStmRD
import Derived.Test.YtjbglgmbnjdhcaaDoorStmU
import Derived.Test.YtjbglgmbnjdhcaaDoorRunC
import Derived.Test.YtjbglgmbnjdhcaaDoorWesM
namespace Go.Proofs.YtjbglgmbnjdhcaaDoor
open Go.RowKit

/-- A list appended to an empty one of one's own. -/
theorem run_append_freshP (w : World) (N b : Nat) (vp : Value) (ps : List (Int × Int)) (ty : TypeId) (hN : N ≤ w.heap.size) (hb : N ≤ b) (hE : Blk w b 57 #[]) (h : RowE 2 encPp w vp ps) (hl : ps.length * 16 ≤ 140737488355328) :
    ∃ v' w', (Builtin.append_ #[22, 22] ty #[.slice (some ⟨b, 0, none⟩) 0 0, vp]).run Tryd.prog w = .ok v' w' ∧ w'.ownsRow N 57 2 v' ps.length (ps.flatMap encPp) ∧ Below w.heap.size w w' := by
  obtain ⟨i, hi, hz0, hz1, hz2⟩ := info_of2 prop_info
  obtain ⟨A, c, rfl, hr⟩ := h.reads lenPp (by omega)
  have hown : w.ownsRow N 57 2 (.slice (some ⟨b, 0, none⟩) 0 0) 0 [] := ⟨rfl, .inr ⟨b, 0, #[], rfl, hb, hE, Nat.le_refl _, by decide, rfl, rfl⟩⟩
  have h1 : ∀ u ∈ ps.flatMap encPp, u.oneCell' = true := fun u hu => by
    obtain ⟨p, _, hp⟩ := List.mem_flatMap.1 hu
    simp only [encPp, List.mem_cons, List.not_mem_nil, or_false] at hp
    rcases hp with rfl | rfl <;> rfl
  obtain ⟨v', w', hrun, hw', _, _⟩ := run_append_any (P := Tryd.prog) w N 22 ty 57 i _ 2 16 Tryd.underlying22 hi hz0 hz1 hz2 rfl (by omega) _ 0 [] hown _ A ps.length c _ hr h1 (by unfold maxLen; omega) (by omega) hN
  rw [List.nil_append, Nat.zero_add] at hw'
  refine ⟨v', w', hrun, hw', ?_⟩
  rcases Nat.eq_zero_or_pos ps.length with h0 | h0
  · rcases A with _ | ad
    · rw [h0] at hrun
      rw [run_append_of_nil w N 22 ty 57 i 2 Tryd.underlying22 hi _ 0 [] hown c] at hrun
      injection hrun with _ e
      rw [← e]
      exact Below.refl _ _
    · have hn : ps.flatMap encPp = [] := List.eq_nil_of_length_eq_zero (by rw [hr.1, h0])
      have h9 := run_append_room (P := Tryd.prog) w 22 ty 57 i Tryd.underlying22 hi b 0 0 #[] hE ad ps.length c (ps.flatMap encPp) (by rw [hr.1, hz1]) (fun j u hu => by rw [hn] at hu; simp at hu) h1 (by omega) (by rw [hn]; simp)
      rw [hrun, hn] at h9
      injection h9 with _ e
      rw [e]
      simp only [Nat.zero_mul, List.length_nil, Nat.add_zero, List.append_nil, List.take_append_drop]
      rw [setRow_self w b #[] 57 (0, 0) hE]
      exact Below.refl _ _
  · obtain ⟨ad, rfl, hlt, hcells⟩ := hr.2 h0
    have h9 := run_append_grow (P := Tryd.prog) w 22 ty 57 i _ Tryd.underlying22 hi hz0 ⟨b, 0, none⟩ 0 0 [] (by simp) (fun j v hj => by simp at hj) ad ps.length c (ps.flatMap encPp) (by rw [hr.1, hz1]) hcells (by omega) (by omega) (by rw [hz2]; exact growslice_fits (by omega) (by omega))
    rw [hrun] at h9
    injection h9 with _ e
    rw [e]
    exact (Below.refl _ _).drew.alloc (Nat.le_refl _) _
theorem wp_append_freshP {o : Oper} {a : Act} {w : World} {K : Act → World → Prop} {Q : Exit → Act → World → Prop} (s x : Operand) (ho : o.op = .call { callee := .builtin .append, args := #[s, x], argTypes := #[22, 22] })
    (N b : Nat) (vp : Value) (ps : List (Int × Int)) (hs : a.eval s = .slice (some ⟨b, 0, none⟩) 0 0) (hx : a.eval x = vp) (hN : N ≤ w.heap.size) (hb : N ≤ b) (hE : Blk w b 57 #[]) (h : RowE 2 encPp w vp ps) (hl : ps.length * 16 ≤ 140737488355328)
    (k : ∀ v' w', w'.ownsRow N 57 2 v' ps.length (ps.flatMap encPp) → Below w.heap.size w w' → K (a.put o.dst v') w') : o.wp Tryd.prog a w K Q := by
  obtain ⟨v', w', hrun, h2, h3⟩ := run_append_freshP w N b vp ps o.type hN hb hE h hl
  unfold Oper.wp execOp
  simp only [ho, resolve, invoke, builtin, Sem.run_bind, Sem.run_pure, Result.andThen_ok, List.map_toArray, List.map_cons, List.map_nil, hs, hx, hrun]
  exact k v' w' h2 h3
theorem run_load_part {P : Program} (w : World) (b off : Nat) (ty : TypeId) (vs : List Value) (d : TypeDesc) (hc : ∀ j v, vs[j]? = some v → w.cell? ⟨b, off + j, none⟩ = some v)
    (hu : P.underlying ty = some d) (hd : (match d with | .struct _ | .array _ _ => true | _ => false) = true) (hi : (P.info? ty).map (·.size) = some vs.length) :
    (loadVar ty ⟨b, off, none⟩).run P w = .ok (.agg vs.toArray) w := by
  have hl : (loadCells ⟨b, off, none⟩ vs.length).run P w = .ok vs.toArray w :=
    run_loadCells_list (P := P) w ⟨b, off, none⟩ vs (fun j v hv => by
      have hadd : (⟨b, off, none⟩ : Addr).add j = ⟨b, off + j, none⟩ := by unfold Addr.add; split <;> simp_all
      rw [hadd]
      exact hc j v hv)
  cases hq : P.info? ty with
  | none => simp [hq] at hi
  | some i =>
    have hs : i.size = vs.length := by simpa [hq] using hi
    have hagg : (isAgg ty).run P w = .ok true w := by
      unfold isAgg
      rw [Sem.run_bind, run_underlying hu w]
      cases d <;> simp_all
    simp [loadVar, Sem.run_bind, hagg, sizeOf, typeInfo, hq, hs, hl]
theorem wp_load_part {P : Program} {o : Oper} {a : Act} {w : World} {K : Act → World → Prop} {Q : Exit → Act → World → Prop} (ty : TypeId) (x : Operand) (ho : o.op = .load ty x)
    (b off : Nat) (hx : a.eval x = .pointer (some ⟨b, off, none⟩)) (vs : List Value) (d : TypeDesc) (hc : ∀ j v, vs[j]? = some v → w.cell? ⟨b, off + j, none⟩ = some v)
    (hu : P.underlying ty = some d) (hd : (match d with | .struct _ | .array _ _ => true | _ => false) = true) (hi : (P.info? ty).map (·.size) = some vs.length)
    (h : K (a.put o.dst (.agg vs.toArray)) w) : o.wp P a w K Q := by
  unfold Oper.wp execOp
  simp only [ho, hx, Instr.loadAt, Instr.sureAddr, Sem.run_bind, Sem.run_pure, Result.andThen_ok, run_load_part w b off ty vs d hc hu hd hi]
  exact h
theorem blk_part {w : World} {b : Nat} {t : TypeId} {cs : Array Value} (h : Blk w b t cs) (off : Nat) (vs : List Value) (e : ∀ j, j < vs.length → cs[off + j]? = vs[j]?) : ∀ j v, vs[j]? = some v → w.cell? ⟨b, off + j, none⟩ = some v := fun j v hv => by
  rw [cell_of_row w b (off + j) cs t _ h, e j (List.getElem?_eq_some_iff.1 hv).1]
  exact hv
def zeroW5 : Array Value := #[.int .i64 0, .slice none 0 0, .slice none 0 0, .slice none 0 0, .int .i64 0]
def spE (N : Nat) (v : Value) (w : World) : Prop := ∃ b, v = .slice (some ⟨b, 0, none⟩) 0 0 ∧ N ≤ b ∧ Blk w b 57 #[]
def spP (N : Nat) (ps : List (Int × Int)) (v : Value) (w : World) : Prop := w.ownsRow N 57 2 v ps.length (ps.flatMap encPp)
def spT (t : Tr) (lp : Int) (v : Value) (w : World) : Prop := ∃ (U : TV) (B : Nat), v = U.val lp ∧ OwnT w B t U
def spW (x : Wit) (st lp : Int) (v : Value) (w : World) : Prop := ∃ up ui ur, v = .agg #[.int .i64 st, up, ui, ur, .int .i64 lp] ∧ OwnW w 0 x up ui ur
def spB (N : Nat) (v : Value) (w : World) : Prop := ∃ b, v = .pointer (some ⟨b, 0, none⟩) ∧ N ≤ b ∧ Blk w b 28 zeroW5
def spVals (N : Nat) (x : Wit) (st lp : Int) (p0 p1 p2 sv pv tv : Value) : List (Value → World → Prop) := [cst p0, cst sv, spE N, cst p1, cst pv, spP N x.ps, cst p2, cst tv, spT x.tr lp, spW x st lp, spB N]
theorem sp_keep {N : Nat} {x : Wit} {st lp : Int} {p0 p1 p2 sv pv tv : Value} : ∀ i v w1 w2, Below (World.heap w1).size w1 w2 → valL (spVals N x st lp p0 p1 p2 sv pv tv) i v w1 → valL (spVals N x st lp p0 p1 p2 sv pv tv) i v w2 := by
  refine valL_keep (G := fun w1 w2 => Below (World.heap w1).size w1 w2) _ (fun p hp => ?_)
  simp only [spVals, List.mem_cons, List.not_mem_nil, or_false] at hp
  rcases hp with rfl | rfl | rfl | rfl | rfl | rfl | rfl | rfl | rfl | rfl | rfl
  · exact cst_stab _
  · exact cst_stab _
  · rintro v w1 w2 hb ⟨b, e, h1, h2⟩
    exact ⟨b, e, h1, h2.below hb h2.lt⟩
  · exact cst_stab _
  · exact cst_stab _
  · intro v w1 w2 hb h
    exact own_below h hb
  · exact cst_stab _
  · exact cst_stab _
  · rintro v w1 w2 hb ⟨U, B, e, h⟩
    exact ⟨U, B, e, h.below hb⟩
  · rintro v w1 w2 hb ⟨up, ui, ur, e, h⟩
    exact ⟨up, ui, ur, e, h.below hb⟩
  · rintro v w1 w2 hb ⟨b, e, h1, h2⟩
    exact ⟨b, e, h1, h2.below hb h2.lt⟩
theorem field_w0 (b : Nat) (w : World) : (Instr.fieldAt 28 (.pointer (some ⟨b, 0, none⟩)) 0).run Tryd.prog w = .ok (.pointer (some ⟨b, 0, none⟩)) w := by kernel_rfl
theorem field_w1 (b : Nat) (w : World) : (Instr.fieldAt 28 (.pointer (some ⟨b, 0, none⟩)) 1).run Tryd.prog w = .ok (.pointer (some ⟨b, 1, none⟩)) w := by kernel_rfl
theorem field_w2 (b : Nat) (w : World) : (Instr.fieldAt 28 (.pointer (some ⟨b, 0, none⟩)) 2).run Tryd.prog w = .ok (.pointer (some ⟨b, 2, none⟩)) w := by kernel_rfl
theorem load_i (b k : Nat) (w : World) {v : Value} (h : w.cell? ⟨b, k, none⟩ = some v) : (Instr.loadAt 3 (.pointer (some ⟨b, k, none⟩))).run Tryd.prog w = .ok v w := load_at _ (fun _ _ => by kernel_rfl) h
theorem load_ps (b k : Nat) (w : World) {v : Value} (h : w.cell? ⟨b, k, none⟩ = some v) : (Instr.loadAt 22 (.pointer (some ⟨b, k, none⟩))).run Tryd.prog w = .ok v w := load_at _ (fun _ _ => by kernel_rfl) h
theorem new_Ps (w : World) : (Instr.buildSlice 22 0 #[]).run Tryd.prog w = .ok (.slice (some ⟨w.heap.size, 0, none⟩) 0 0) (w.alloc (.cells #[] 57)) := by kernel_rfl
theorem alloc_wit (w : World) : (Instr.alloc 28 true (.tuple #[])).run Tryd.prog w = .ok (.pointer (some ⟨w.heap.size, 0, none⟩)) (w.alloc (.cells zeroW5 28)) := by kernel_rfl
theorem build_w3 (A A2 A3 : Option Addr) (k c k2 c2 k3 c3 : Nat) (z l : Int) (w : World) : (Instr.build 28 #[(0, .int .i64 z), (1, .slice A k c), (2, .agg #[.slice A2 k2 c2, .slice A3 k3 c3, .int .i64 l])]).run Tryd.prog w = .ok (.agg #[.int .i64 z, .slice A k c, .slice A2 k2 c2, .slice A3 k3 c3, .int .i64 l]) w := run_build w _ _ _ (by kernel_rfl)
theorem wp_act_eqR {P : Program} {ops : Array Oper} {Q : Exit → Act → World → Prop} {i : Nat} {K : Act → World → Prop} {a a' : Act} {w : World} (e : a = a') (h : wpOp P ops Q i K a' w) : wpOp P ops Q i K a w := e ▸ h
theorem names12_any (w : World) : Calls Tryd.prog 5 #[] w fun e w' => e = .returned (.bool true) ∧ w = w' := by
  go_enter Tryd.func5, Tryd.ntmps5
  go_wp2
  go_ret
  exact ⟨rfl, rfl⟩
theorem wit_forms {w : World} {x : Wit} {vp vi vr : Value} (h : WtIn w x vp vi vr) : ∃ A1 k1 A2 n2 k2 A3 k3, vp = .slice A1 x.ps.length k1 ∧ vi = .slice A2 n2 k2 ∧ vr = .slice A3 x.tr.rows.length k3 := by
  obtain ⟨A1, k1, e1⟩ := slP_form h.p
  obtain ⟨A3, k3, e3, _, _⟩ := h.t.r.at_
  obtain ⟨A2, n2, k2, e2⟩ := slO_form h.t.i
  exact ⟨A1, k1, A2, n2, k2, A3, k3, e1, e2, e3⟩
set_option maxHeartbeats 20000000 in
set_option maxRecDepth 100000 in
theorem stimPrints_any (w : World) (B : Nat) (x : Wit) (vp vi vr : Value) (h : WtIn w x vp vi vr) (hw : ∀ p ∈ x.ps, (0 ≤ p.1 ∧ p.1 ≤ 255) ∧ I64 p.2) (hpl : x.ps.length * 16 ≤ 140737488355328) (hre : x.tr.Reach) (L n : Int) (lib : LibB B w) (hB : B ≤ w.heap.size) :
    Calls Tryd.prog 3 #[.agg #[.int .i64 x.st, vp, vi, vr, .int .i64 x.tr.loop], .agg #[.int .i64 L, .int .i64 n]] w fun e w' => e = .returned (.bool true) ∧ Below w.heap.size w w' := by
  have HWK := Lib.hid (fun (wx : World) (hb : Below w.heap.size w wx) => works_any wx B (lib.up hB hb) (Nat.le_trans hB hb.size))
  have HCK := Lib.hid (fun (wx : World) (up ui ur : Value) (h2 : WtIn wx x up ui ur) => check_any wx x up ui ur h2 hw L n)
  have HRC := Lib.hid (fun (wx : World) (hb : Below w.heap.size w wx) => rCheckW_any wx x vp vi vr (h.below hb) L n)
  have HPR := Lib.hid (fun (wx : World) (up ui ur : Value) (hb : Below w.heap.size w wx) (h2 : WtIn wx x up ui ur) => print_any wx B x up ui ur h2 hw L n (lib.up hB hb) (Nat.le_trans hB hb.size))
  have HRP := Lib.hid (fun (wx : World) (hb : Below w.heap.size w wx) => rPrintW_any wx x vp vi vr (h.below hb) L n)
  have HSM := Lib.hid (fun (wx : World) (up ui ur : Value) (hb : Below w.heap.size w wx) (h2 : WtIn wx x up ui ur) => sameW_any wx x up ui ur vp vi vr h2 (h.below hb))
  have HCT := Lib.hid (fun (wx : World) (hx : x.tr.In wx ⟨vi, vr⟩) => CopyTrace_any wx ⟨vi, vr⟩ x.tr hx hre)
  have HIN := Lib.hid h
  have HPL := Lib.hid hpl
  obtain ⟨AP, cP, AI, nI, cI, AR, cR, eP, eI, eR⟩ := wit_forms h
  subst eP eI eR
  obtain ⟨nR, hnR⟩ : ∃ k, x.tr.rows.length = k := ⟨_, rfl⟩
  obtain ⟨np, hnp⟩ : ∃ k, x.ps.length = k := ⟨_, rfl⟩
  obtain ⟨st, hst⟩ : ∃ k, x.st = k := ⟨_, rfl⟩
  obtain ⟨lp, hlp⟩ : ∃ k, x.tr.loop = k := ⟨_, rfl⟩
  obtain ⟨WE, hwe⟩ : ∃ k, witE x L n = k := ⟨_, rfl⟩
  obtain ⟨PT, PE, hpr⟩ : ∃ a b, (strB (prW x L n).1, (prW x L n).2) = (a, b) := ⟨_, _, rfl⟩
  have hpt : strB (prW x L n).1 = PT := congrArg Prod.fst hpr
  have hpe : (prW x L n).2 = PE := congrArg Prod.snd hpr
  rw [hwe] at HCK HRC
  rw [hpt, hpe] at HPR HRP
  rw [hst, hlp] at HCK HRC HPR HRP HSM
  rw [hlp] at HCT
  rw [hnR, hnp] at HRC HRP HSM
  rw [hnR] at HCT
  rw [hnR, hnp] at HIN
  have HST := Lib.hid (And.intro hst hlp)
  rw [hst, hlp, hnR, hnp]
  clear h hw hpl hre lib hnR hnp hst hlp hwe hpr hpt hpe
  have hq1 : (WE == WE) = true := by simp
  have hq2 : (PE == PE) = true := by simp
  have hq3 : (PT.toList == PT.toList) = true := by simp
  go_enter Tryd.func3, Tryd.ntmps3
  go_upto_region 3 with (go_at_call 5; refine (names12_any _).mono ?_; rintro e w9 ⟨rfl, rfl⟩)
  go_cut [5] (fun p wx => ∃ (gi : Nat) (up ui ur : Value), p = .pointer (some ⟨gi, 0, none⟩) ∧ WtIn wx x up ui ur ∧ Blk wx gi 28 #[.int .i64 st, up, ui, ur, .int .i64 lp] ∧ Blk wx w.heap.size 28 #[.int .i64 st, .slice AP np cP, .slice AI nI cI, .slice AR nR cR, .int .i64 lp] ∧ Blk wx (w.heap.size + 1) 30 #[.int .i64 L, .int .i64 n] ∧ Below w.heap.size w wx)
  case first =>
    obtain ⟨X, hX⟩ : ∃ X, X = ((w.alloc (.cells #[.int .i64 st, .slice AP np cP, .slice AI nI cI, .slice AR nR cR, .int .i64 lp] 28)).alloc (.cells #[.int .i64 L, .int .i64 n] 30)) := ⟨_, rfl⟩
    have hXB : Below w.heap.size w X := by rw [hX]; exact ((Below.refl w.heap.size w).alloc (Nat.le_refl _) _).alloc (by simp) _
    have hX0 : Blk X w.heap.size 28 #[.int .i64 st, .slice AP np cP, .slice AI nI cI, .slice AR nR cR, .int .i64 lp] := by rw [hX]; exact (Blk.new w _ _).alloc _
    have hX1 : Blk X (w.heap.size + 1) 30 #[.int .i64 L, .int .i64 n] := by
      rw [hX]
      have h9 := Blk.new (w.alloc (.cells #[.int .i64 st, .slice AP np cP, .slice AI nI cI, .slice AR nR cR, .int .i64 lp] 28)) 30 #[.int .i64 L, .int .i64 n]
      rwa [show (w.alloc (.cells #[.int .i64 st, .slice AP np cP, .slice AI nI cI, .slice AR nR cR, .int .i64 lp] 28)).heap.size = w.heap.size + 1 by simp] at h9
    rw [← hX]
    have HOLD : ∀ wz, Below X.heap.size X wz → WtIn wz x (.slice AP np cP) (.slice AI nI cI) (.slice AR nR cR) ∧ Blk wz w.heap.size 28 #[.int .i64 st, .slice AP np cP, .slice AI nI cI, .slice AR nR cR, .int .i64 lp] ∧ Blk wz (w.heap.size + 1) 30 #[.int .i64 L, .int .i64 n] := fun wz hb => by
      have h9 := bt hXB (Nat.le_refl _) hb
      exact ⟨HIN.out.below h9, hX0.below hb hX0.lt, hX1.below hb hX1.lt⟩
    refine region_lit ?_
    intro ops hops
    have HBA : (webB ops && acyB ops && (ops.size == 11 + (0 + 1)) && Region.sinkB .any ops 11 && (List.range (0 + 1)).all fun k => decide (0 ≤ k) || Region.waitsFor .any ops (11 + k + 1) (11 + k)) = true := by rw [hops]; kernel_rfl
    have HB0 : webB ops = true := by rw [hops]; kernel_rfl
    have HND2 : ∀ j, j < ops.size → dstOf ops j ≠ some 2 := noDst_spec (by rw [hops]; kernel_rfl)
    obtain ⟨w0, hw0⟩ : ∃ w0 : World, w0 = { X with drawn := X.drawn + 1 } := ⟨_, rfl⟩
    have hb0 : Below X.heap.size X w0 := by rw [hw0]; exact (Below.refl _ _).drew
    refine wp_region_wesM (by kernel_rfl) 11 0 HBA (fun w1 w2 => Below w1.heap.size w1 w2) (valL (spVals X.heap.size x st lp (.pointer (some ⟨w.heap.size, 0, none⟩)) (.pointer (some ⟨w.heap.size, 1, none⟩)) (.pointer (some ⟨w.heap.size, 2, none⟩)) (.int .i64 st) (.slice AP np cP) (.agg #[.slice AI nI cI, .slice AR nR cR, .int .i64 lp]))) (fun _ _ _ _ => True) (fun _ _ _ _ _ => True) (fun _ _ _ _ _ _ _ _ _ _ _ => ⟨trivial, trivial⟩) (fun _ _ _ _ _ _ _ _ => trivial) (fun a => Below.refl _ _) (fun a b c h1 h2 => bt h1 (Nat.le_refl _) h2) sp_keep ?_ ?_
    · intro i o hi ho
      rw [← hw0]
      rw [hops] at ho
      match i, hi, ho with
      | 0, _, ho =>
        simp only [List.getElem?_toArray, List.getElem?_cons_zero, Option.some.injEq] at ho; subst ho
        refine wesStep_of HB0 rfl (fun f aC wz hw hd ha hv hsp K hK => ?_)
        have hbx : Below X.heap.size X wz := bt hb0 (Nat.le_refl _) (hw.mono (Nat.le_refl _))
        have e1 : aC.eval (.tmp 2) = .pointer (some ⟨w.heap.size, 0, none⟩) := (ha 2 HND2).trans rfl
        refine wp_val (v := .pointer (some ⟨w.heap.size, 0, none⟩)) (w' := wz) ?_ (hK _ _ (Below.refl _ _) rfl trivial)
        simp only [execOp, e1]
        exact run_value (field_w0 _ wz)
      | 1, _, ho =>
        simp only [List.getElem?_toArray, List.getElem?_cons_zero, List.getElem?_cons_succ, Option.some.injEq] at ho; subst ho
        refine wesStep_of HB0 rfl (fun f aC wz hw hd ha hv hsp K hK => ?_)
        have hbx : Below X.heap.size X wz := bt hb0 (Nat.le_refl _) (hw.mono (Nat.le_refl _))
        have e1 : aC.eval (.tmp 12) = .pointer (some ⟨w.heap.size, 0, none⟩) := (hd 0 12 (by rw [hops]; kernel_rfl) (by rw [hops]; kernel_rfl) (by simp)).trans (hv 0 (by rw [hops]; kernel_rfl))
        refine wp_val (v := .int .i64 st) (w' := wz) ?_ (hK _ _ (Below.refl _ _) rfl trivial)
        simp only [execOp, e1]
        exact run_value (load_i _ _ _ ((HOLD wz hbx).2.1.cell 0))
      | 2, _, ho =>
        simp only [List.getElem?_toArray, List.getElem?_cons_zero, List.getElem?_cons_succ, Option.some.injEq] at ho; subst ho
        refine wesStep_of HB0 rfl (fun f aC wz hw hd ha hv hsp K hK => ?_)
        have hbx : Below X.heap.size X wz := bt hb0 (Nat.le_refl _) (hw.mono (Nat.le_refl _))
        refine wp_val (v := .slice (some ⟨wz.heap.size, 0, none⟩) 0 0) (w' := wz.alloc (.cells #[] 57)) ?_ (hK _ _ ((Below.refl _ _).alloc (Nat.le_refl _) _) ⟨_, rfl, hbx.size, Blk.new _ _ _⟩ trivial)
        simp only [execOp, Array.map_empty]
        exact run_value (new_Ps wz)
      | 3, _, ho =>
        simp only [List.getElem?_toArray, List.getElem?_cons_zero, List.getElem?_cons_succ, Option.some.injEq] at ho; subst ho
        refine wesStep_of HB0 rfl (fun f aC wz hw hd ha hv hsp K hK => ?_)
        have hbx : Below X.heap.size X wz := bt hb0 (Nat.le_refl _) (hw.mono (Nat.le_refl _))
        have e1 : aC.eval (.tmp 2) = .pointer (some ⟨w.heap.size, 0, none⟩) := (ha 2 HND2).trans rfl
        refine wp_val (v := .pointer (some ⟨w.heap.size, 1, none⟩)) (w' := wz) ?_ (hK _ _ (Below.refl _ _) rfl trivial)
        simp only [execOp, e1]
        exact run_value (field_w1 _ wz)
      | 4, _, ho =>
        simp only [List.getElem?_toArray, List.getElem?_cons_zero, List.getElem?_cons_succ, Option.some.injEq] at ho; subst ho
        refine wesStep_of HB0 rfl (fun f aC wz hw hd ha hv hsp K hK => ?_)
        have hbx : Below X.heap.size X wz := bt hb0 (Nat.le_refl _) (hw.mono (Nat.le_refl _))
        have e1 : aC.eval (.tmp 15) = .pointer (some ⟨w.heap.size, 1, none⟩) := (hd 3 15 (by rw [hops]; kernel_rfl) (by rw [hops]; kernel_rfl) (by simp)).trans (hv 3 (by rw [hops]; kernel_rfl))
        refine wp_val (v := .slice AP np cP) (w' := wz) ?_ (hK _ _ (Below.refl _ _) rfl trivial)
        simp only [execOp, e1]
        exact run_value (load_ps _ _ _ ((HOLD wz hbx).2.1.cell 1))
      | 5, _, ho =>
        simp only [List.getElem?_toArray, List.getElem?_cons_zero, List.getElem?_cons_succ, Option.some.injEq] at ho; subst ho
        refine wesStep_of HB0 rfl (fun f aC wz hw hd ha hv hsp K hK => ?_)
        have hbx : Below X.heap.size X wz := bt hb0 (Nat.le_refl _) (hw.mono (Nat.le_refl _))
        obtain ⟨b, e0, hbN, hbE⟩ : spE X.heap.size (f 2) wz := hv 2 (by rw [hops]; kernel_rfl)
        have e2 : aC.eval (.tmp 14) = .slice (some ⟨b, 0, none⟩) 0 0 := (hd 2 14 (by rw [hops]; kernel_rfl) (by rw [hops]; kernel_rfl) (by simp)).trans e0
        have e1 : aC.eval (.tmp 16) = .slice AP np cP := (hd 4 16 (by rw [hops]; kernel_rfl) (by rw [hops]; kernel_rfl) (by simp)).trans (hv 4 (by rw [hops]; kernel_rfl))
        refine wp_append_freshP (.tmp 14) (.tmp 16) rfl X.heap.size b _ x.ps e2 e1 hbx.size hbN hbE (HOLD wz hbx).1.p HPL.out (fun v' w' ho hb => ?_)
        exact hK _ w' hb ho trivial
      | 6, _, ho =>
        simp only [List.getElem?_toArray, List.getElem?_cons_zero, List.getElem?_cons_succ, Option.some.injEq] at ho; subst ho
        refine wesStep_of HB0 rfl (fun f aC wz hw hd ha hv hsp K hK => ?_)
        have hbx : Below X.heap.size X wz := bt hb0 (Nat.le_refl _) (hw.mono (Nat.le_refl _))
        have e1 : aC.eval (.tmp 2) = .pointer (some ⟨w.heap.size, 0, none⟩) := (ha 2 HND2).trans rfl
        refine wp_val (v := .pointer (some ⟨w.heap.size, 2, none⟩)) (w' := wz) ?_ (hK _ _ (Below.refl _ _) rfl trivial)
        simp only [execOp, e1]
        exact run_value (field_w2 _ wz)
      | 7, _, ho =>
        simp only [List.getElem?_toArray, List.getElem?_cons_zero, List.getElem?_cons_succ, Option.some.injEq] at ho; subst ho
        refine wesStep_of HB0 rfl (fun f aC wz hw hd ha hv hsp K hK => ?_)
        have hbx : Below X.heap.size X wz := bt hb0 (Nat.le_refl _) (hw.mono (Nat.le_refl _))
        have e1 : aC.eval (.tmp 18) = .pointer (some ⟨w.heap.size, 2, none⟩) := (hd 6 18 (by rw [hops]; kernel_rfl) (by rw [hops]; kernel_rfl) (by simp)).trans (hv 6 (by rw [hops]; kernel_rfl))
        refine wp_load_part 26 (.tmp 18) rfl w.heap.size 2 e1 [.slice AI nI cI, .slice AR nR cR, .int .i64 lp] _ (blk_part (HOLD wz hbx).2.1 2 _ (fun j hj => by
          match j, hj with
          | 0, _ => rfl
          | 1, _ => rfl
          | 2, _ => rfl)) Tryd.underlying26 rfl (by kernel_rfl) ?_
        exact hK _ _ (Below.refl _ _) rfl trivial
      | 8, _, ho =>
        simp only [List.getElem?_toArray, List.getElem?_cons_zero, List.getElem?_cons_succ, Option.some.injEq] at ho; subst ho
        refine wesStep_of HB0 rfl (fun f aC wz hw hd ha hv hsp K hK => ?_)
        have hbx : Below X.heap.size X wz := bt hb0 (Nat.le_refl _) (hw.mono (Nat.le_refl _))
        have e1 : aC.eval (.tmp 19) = .agg #[.slice AI nI cI, .slice AR nR cR, .int .i64 lp] := (hd 7 19 (by rw [hops]; kernel_rfl) (by rw [hops]; kernel_rfl) (by simp)).trans (hv 7 (by rw [hops]; kernel_rfl))
        refine wp_enter (f := 6) (args := #[.agg #[.slice AI nI cI, .slice AR nR cR, .int .i64 lp]]) ?_ ((HCT.out wz (HOLD wz hbx).1.t).mono ?_)
        · simp [execOp, resolve, e1]; rfl
        · rintro e w' ⟨U', rfl, hbel, B', hcop⟩
          exact ⟨_, rfl, hK _ w' hbel ⟨U', B', rfl, hcop⟩ trivial⟩
      | 9, _, ho =>
        simp only [List.getElem?_toArray, List.getElem?_cons_zero, List.getElem?_cons_succ, Option.some.injEq] at ho; subst ho
        refine wesStep_of HB0 rfl (fun f aC wz hw hd ha hv hsp K hK => ?_)
        have hbx : Below X.heap.size X wz := bt hb0 (Nat.le_refl _) (hw.mono (Nat.le_refl _))
        have e1 : aC.eval (.tmp 13) = .int .i64 st := (hd 1 13 (by rw [hops]; kernel_rfl) (by rw [hops]; kernel_rfl) (by simp)).trans (hv 1 (by rw [hops]; kernel_rfl))
        have k5 : spP X.heap.size x.ps (f 5) wz := hv 5 (by rw [hops]; kernel_rfl)
        obtain ⟨U1, B2, e8, k8⟩ : spT x.tr lp (f 8) wz := hv 8 (by rw [hops]; kernel_rfl)
        have hwi : OwnW wz 0 x (f 5) U1.i U1.r := ⟨own_le k5 (Nat.zero_le _), k8.le (Nat.zero_le _)⟩
        obtain ⟨A1, k1, A2, n2, k2, A3, k3, f1, f2, f3⟩ := wit_forms hwi.in_
        have e5 : aC.eval (.tmp 17) = .slice A1 x.ps.length k1 := (hd 5 17 (by rw [hops]; kernel_rfl) (by rw [hops]; kernel_rfl) (by simp)).trans f1
        have e9 : aC.eval (.tmp 20) = .agg #[.slice A2 n2 k2, .slice A3 x.tr.rows.length k3, .int .i64 lp] := (hd 8 20 (by rw [hops]; kernel_rfl) (by rw [hops]; kernel_rfl) (by simp)).trans (e8.trans (by unfold TV.val TV.cells; rw [f2, f3]))
        refine wp_val (v := .agg #[.int .i64 st, .slice A1 x.ps.length k1, .slice A2 n2 k2, .slice A3 x.tr.rows.length k3, .int .i64 lp]) (w' := wz) ?_ (hK _ _ (Below.refl _ _) ⟨_, _, _, rfl, by rw [← f1, ← f2, ← f3]; exact hwi⟩ trivial)
        simp only [execOp, List.map_toArray, List.map_cons, List.map_nil, e1, e5, e9]
        exact run_value (build_w3 _ _ _ _ _ _ _ _ _ _ _ wz)
      | 10, _, ho =>
        simp only [List.getElem?_toArray, List.getElem?_cons_zero, List.getElem?_cons_succ, Option.some.injEq] at ho; subst ho
        refine wesStep_of HB0 rfl (fun f aC wz hw hd ha hv hsp K hK => ?_)
        have hbx : Below X.heap.size X wz := bt hb0 (Nat.le_refl _) (hw.mono (Nat.le_refl _))
        refine wp_val (v := .pointer (some ⟨wz.heap.size, 0, none⟩)) (w' := wz.alloc (.cells zeroW5 28)) ?_ (hK _ _ ((Below.refl _ _).alloc (Nat.le_refl _) _) ⟨_, rfl, hbx.size, Blk.new _ _ _⟩ trivial)
        exact run_value (alloc_wit wz)
      | n + 11, h, _ => exact absurd h (by omega)
    · intro f wz hw hv hsp
      rw [← hw0] at hw
      obtain ⟨up, ui, ur, e9, k9⟩ : spW x st lp (f 9) wz := hv 9 (by decide)
      obtain ⟨x5, e10, h10, k10⟩ : spB X.heap.size (f 10) wz := hv 10 (by decide)
      obtain ⟨A1, j1, A2, n2, j2, A3, j3, f1, f2, f3⟩ := wit_forms k9.in_
      subst f1 f2 f3
      have e : putAll ops f (List.range 11) ({ tmps := #[.agg #[.int .i64 st, .slice AP np cP, .slice AI nI cI, .slice AR nR cR, .int .i64 lp], .agg #[.int .i64 L, .int .i64 n], .pointer (some ⟨w.heap.size, 0, none⟩), .pointer (some ⟨w.heap.size + 1, 0, none⟩), .bool false, undef, undef, undef, undef, undef, .bool true, .bool false, undef, undef, undef, undef, undef, undef, undef, undef, undef, undef, undef, undef, undef, undef, undef, undef, undef, undef, undef, undef, undef, undef, undef, undef, undef, undef, undef, undef, undef, undef, undef, undef, undef, undef, undef, undef, undef, undef, undef, undef, undef, undef, undef, undef, undef, undef, undef, undef, undef, undef, undef, undef, undef, undef, undef, undef, undef, undef, undef], defers := [] } : Act) = ({ tmps := #[.agg #[.int .i64 st, .slice AP np cP, .slice AI nI cI, .slice AR nR cR, .int .i64 lp], .agg #[.int .i64 L, .int .i64 n], .pointer (some ⟨w.heap.size, 0, none⟩), .pointer (some ⟨w.heap.size + 1, 0, none⟩), .bool false, f 10, undef, undef, undef, undef, .bool true, .bool false, f 0, f 1, f 2, f 3, f 4, f 5, f 6, f 7, f 8, f 9, undef, undef, undef, undef, undef, undef, undef, undef, undef, undef, undef, undef, undef, undef, undef, undef, undef, undef, undef, undef, undef, undef, undef, undef, undef, undef, undef, undef, undef, undef, undef, undef, undef, undef, undef, undef, undef, undef, undef, undef, undef, undef, undef, undef, undef, undef, undef, undef, undef], defers := [] } : Act) := by rw [hops]; kernel_rfl
      unfold chainP
      refine wp_act_eqR e ?_
      clear e
      have ho6 : ∃ o, ops[11]? = some o ∧ o.guard = none ∧ o.op = .store 28 (.tmp 5) (.tmp 21) ∧ o.dst = none := by rw [hops]; exact ⟨_, rfl, rfl, rfl, rfl⟩
      obtain ⟨o, ho1, ho2, ho3, ho4⟩ := ho6
      refine wpOp_of ho1 ho2 ?_
      refine wp_store_row 28 (.tmp 5) (.tmp 21) ho3 x5 #[.int .i64 st, .slice A1 x.ps.length j1, .slice A2 n2 j2, .slice A3 x.tr.rows.length j3, .int .i64 lp] (by exact e10) (by exact e9) 28 _ k10 (by kernel_rfl) rfl (by simp [Value.oneCell']) ?_
      rw [ho4]
      clear ho1 ho2 ho3 ho4 o
      obtain ⟨w3, hw3⟩ : ∃ w3, w3 = wz.setRow x5 #[.int .i64 st, .slice A1 x.ps.length j1, .slice A2 n2 j2, .slice A3 x.tr.rows.length j3, .int .i64 lp] := ⟨_, rfl⟩
      rw [← hw3]
      have hXz := bt hb0 (Nat.le_refl _) (hw.mono (Nat.le_refl _))
      have k5a : Blk w3 x5 28 #[.int .i64 st, .slice A1 x.ps.length j1, .slice A2 n2 j2, .slice A3 x.tr.rows.length j3, .int .i64 lp] := by rw [hw3]; exact setRow_heap wz x5 _ _ _ _ k10
      have hb3 : Below X.heap.size X w3 := by rw [hw3]; exact below_setRow hXz h10
      have hw3i : WtIn w3 x (.slice A1 x.ps.length j1) (.slice A2 n2 j2) (.slice A3 x.tr.rows.length j3) := by
        refine (k9.box k10 (by decide) (by decide) (by decide) (fun k hk => ?_)).in_
        rw [hw3]
        simp only [World.setRow, Array.getElem?_modify]
        rw [if_neg (fun e => hk e.symm)]
      have hold := HOLD w3 hb3
      have HSR := Lib.hid (And.intro hw3i (And.intro k5a (And.intro hold.2.1 (And.intro hold.2.2 (bt hXB (Nat.le_refl _) hb3)))))
      rw [e9, e10, show f 0 = .pointer (some ⟨w.heap.size, 0, none⟩) from hv 0 (by decide), show f 1 = .int .i64 st from hv 1 (by decide)]
      clear hsp hv e9 e10 hw hb0 hw0 hXz hb3 hold k5a hw3i k9 k10 h10 hw3
      unfold chainP
      first
        | (go_meet; exact ⟨x5, _, _, _, rfl, HSR.out⟩)
        | (go_wp2_with (fail); go_meet; exact ⟨x5, _, _, _, rfl, HSR.out⟩)
        | (simp only []; go_meet; exact ⟨x5, _, _, _, rfl, HSR.out⟩)
  case rest =>
    obtain ⟨gi, up, ui, ur, rfl, hwi, hk0, ha0, hz0, hb0⟩ := hcut
    obtain ⟨A1, j1, A2, n2, j2, A3, j3, f1, f2, f3⟩ := wit_forms hwi
    subst f1 f2 f3
    have HI0 := Lib.hid hwi
    have HK0 := Lib.hid hk0
    have HA0 := Lib.hid ha0
    have HZ0 := Lib.hid hz0
    have HB0 := Lib.hid hb0
    clear hwi hk0 ha0 hz0 hb0
    obtain ⟨c0, c1, c2, c3, c4⟩ := five_of HA0.out; obtain ⟨d0, d1⟩ := duo_of HZ0.out; obtain ⟨k0, k1, k2, k3, k4⟩ := five_of HK0.out
    go_upto_region 5 with (go_at_call 7; go_loud (refine (HPR.out wc _ _ _ HB0.out HI0.out).mono ?_; rintro e w1 ⟨rfl, hb⟩; have HB1 := Lib.hid (bt HB0.out (Nat.le_refl _) hb); have HA1 := Lib.hid (Blk.below HA0.out hb (Blk.lt HA0.out)); have HZ1 := Lib.hid (Blk.below HZ0.out hb (Blk.lt HZ0.out)); have HK1 := Lib.hid (Blk.below HK0.out hb (Blk.lt HK0.out)); have HI1 := Lib.hid (HI0.out.below hb); clear hb))
    clear c0 c1 c2 c3 c4 d0 d1 k0 k1 k2 k3 k4
    obtain ⟨c0, c1, c2, c3, c4⟩ := five_of HA1.out; obtain ⟨d0, d1⟩ := duo_of HZ1.out; obtain ⟨k0, k1, k2, k3, k4⟩ := five_of HK1.out
    go_upto_region 6 with (go_at_call 8; go_loud (refine (HRP.out w1 HB1.out).mono ?_; rintro e w2 ⟨rfl, hb⟩; have HB2 := Lib.hid (bt HB1.out (Nat.le_refl _) hb); have HA2 := Lib.hid (Blk.below HA1.out hb (Blk.lt HA1.out)); have HZ2 := Lib.hid (Blk.below HZ1.out hb (Blk.lt HZ1.out)); have HK2 := Lib.hid (Blk.below HK1.out hb (Blk.lt HK1.out)); have HI2 := Lib.hid (HI1.out.below hb); clear hb))
    clear c0 c1 c2 c3 c4 d0 d1 k0 k1 k2 k3 k4
    refine wp_region_quiet (C := fun wz => Below w2.heap.size w2 wz) (by kernel_rfl) (by kernel_rfl) (Below.refl w2.heap.size w2).drew ?_
    simp only
    repeat
      first
        | go_big_quiet_skip
        | (refine wpQuiet_step (fun K hK => ?_)
           rw [if_pos (by rfl)]
           unfold Oper.quiet
           apply Exists.intro
           refine And.intro (fun wx hWx => ?_) (hK _ ?_)
           · have hbw := bt HB2.out (Nat.le_refl _) hWx
             have hin := HI2.out.below hWx
             obtain ⟨c0, c1, c2, c3, c4⟩ := five_of (Blk.below HA2.out hWx (Blk.lt HA2.out))
             obtain ⟨d0, d1⟩ := duo_of (Blk.below HZ2.out hWx (Blk.lt HZ2.out))
             obtain ⟨k0, k1, k2, k3, k4⟩ := five_of (Blk.below HK2.out hWx (Blk.lt HK2.out))
             first
               | (go_simp; exact rfl)
               | (go_simp; go_at_call 9; refine (HCK.out wx _ _ _ hin).mono ?_; rintro e w' ⟨rfl, hb'⟩; exact ⟨rfl, bt hWx (Nat.le_refl _) hb'⟩)
               | (go_simp; go_at_call 10; refine (HRC.out wx hbw).mono ?_; rintro e w' ⟨rfl, hb'⟩; exact ⟨rfl, bt hWx (Nat.le_refl _) hb'⟩)
               | (go_simp; go_at_call 11; refine (HSM.out wx _ _ _ hbw hin).mono ?_; rintro e w' ⟨rfl, hb'⟩; exact ⟨rfl, bt hWx (Nat.le_refl _) hb'⟩)
               | (go_simp; go_at_call 12; refine (HWK.out wx hbw).mono ?_; rintro e w' ⟨rfl, hb'⟩; exact ⟨rfl, bt hWx (Nat.le_refl _) hb'⟩)
           clear hK K
           try simp only [Act.put, List.setIfInBounds_toArray, List.set_cons_zero, List.set_cons_succ])
    refine wpQuiet_nil ?_
    intro w5 hw5
    have HW5 := Lib.hid (bt HB2.out (Nat.le_refl _) hw5)
    clear hw5
    go_wp2
    go_ret
    exact ⟨rfl, HW5.out⟩
end Go.Proofs.YtjbglgmbnjdhcaaDoor

/- Stim: rows of bytes that began as a text's bytes: what append makes of them. -/
import Derived.Test.YtjbglgmbnjdhcaaDoorStmRB
import Derived.Lib.AppendStr
import Derived.Lib.FrozenHead
import Derived.Laws.IdiomStrings
namespace Go.Proofs.YtjbglgmbnjdhcaaDoor
open Go.RowKit

/-- No cell of a row is frozen: what is written into it. -/
theorem run_storeCells_un (P : Program) (g o : Nat) (t : TypeId) (fz : Nat × Nat) : ∀ (vs : List Value) (i : Nat) (cur : Array Value) (w : World), w.heap[g]? = some (.cells cur t fz) → (∀ j, j < cur.size → ¬ (fz.1 ≤ j ∧ j < fz.2)) → o + i + vs.length ≤ cur.size → (∀ v ∈ vs, v.oneCell' = true) →
    (storeCells ⟨g, o, none⟩ vs i).run P w = .ok () (w.setRow g (cur.toList.take (o + i) ++ vs ++ cur.toList.drop (o + i + vs.length)).toArray)
  | [], i, cur, w, hg, _, _, _ => by
    simp only [storeCells, List.append_nil, List.length_nil, Nat.add_zero, List.take_append_drop, Array.toArray_toList]
    rw [setRow_self w g cur t fz hg]
    rfl
  | v :: rest, i, cur, w, hg, hfz, hl, h1 => by
    have hi : o + i < cur.size := by simp at hl; omega
    have hadd : (⟨g, o, none⟩ : Addr).add i = ⟨g, o + i, none⟩ := by unfold Addr.add; split <;> simp_all
    have hcell : w.cell? ⟨g, o + i, none⟩ = some cur[o + i] := by simp [World.cell?, hg, hi]
    have hfro : w.frozen? ⟨g, o + i, none⟩ = false := by
      obtain ⟨lo, hi'⟩ := fz
      have h9 := hfz (o + i) hi
      simp only at h9
      simp only [World.frozen?, hg, Bool.and_eq_false_iff, decide_eq_false_iff_not]
      omega
    have hst : (store ((⟨g, o, none⟩ : Addr).add i) v).run P w = .ok () (w.setRow g (cur.setIfInBounds (o + i) v)) := by
      rw [hadd, run_store P w _ v _ (h1 v (by simp)), hcell]
      simp [hfro, setCell_eq_setRow w g (o + i) cur t fz v hg]
    have ih := run_storeCells_un P g o t fz rest (i + 1) (cur.setIfInBounds (o + i) v) (w.setRow g (cur.setIfInBounds (o + i) v)) (setRow_heap w g cur _ t _ hg) (fun j hj => hfz j (by simpa using hj)) (by simp at hl ⊢; omega) (fun x hx => h1 x (by simp [hx]))
    simp only [storeCells, Sem.run_bind, hst, Result.andThen_ok, ih, setRow_setRow]
    congr 3
    have e := list_seg_step cur.toList (o + i) v rest (by simp at hl ⊢; omega)
    simpa [Array.toList_setIfInBounds, Nat.add_assoc] using e

def u8v (b : UInt8) : Value := .int .u8 (b.toNat : Int)
theorem strCells_B (l : Bs) : Lib.strCells (strB l) = l.map u8v := by
  unfold Lib.strCells strB
  rfl
/-- A row of bytes of one's own, none of it frozen. -/
def RowM (w : World) (B : Nat) (v : Value) (l : Bs) : Prop :=
  ∃ (g cap : Nat) (cur : Array Value) (fz : Nat × Nat), v = .slice (some ⟨g, 0, none⟩) l.length cap ∧ B ≤ g ∧ w.heap[g]? = some (.cells cur 5 fz) ∧ (∀ j, j < cap → ¬ (fz.1 ≤ j ∧ j < fz.2)) ∧ l.length ≤ cap ∧ cap ≤ maxLen ∧ cur.size = cap ∧ cur.toList.take l.length = l.map u8v
section
variable {w w' : World} {B : Nat} {v : Value} {l : Bs}
theorem RowM.lt (h : RowM w B v l) : ∀ k, v.ownBlock = some k → B ≤ k ∧ k < w.heap.size := by
  obtain ⟨g, cap, cur, fz, rfl, hB, hg, _⟩ := h
  intro k hk
  simp [Value.ownBlock] at hk
  subst hk
  exact ⟨hB, (Array.getElem?_eq_some_iff.1 hg).1⟩
theorem RowM.below (h : RowM w B v l) (hb : Below w.heap.size w w') : RowM w' B v l := by
  obtain ⟨g, cap, cur, fz, rfl, hB, hg, r⟩ := h
  exact ⟨g, cap, cur, fz, rfl, hB, (hb.block g (Array.getElem?_eq_some_iff.1 hg).1).trans hg, r⟩
theorem RowM.alloc (h : RowM w B v l) (o : Obj) : RowM (w.alloc o) B v l := by
  obtain ⟨g, cap, cur, fz, rfl, hB, hg, r⟩ := h
  exact ⟨g, cap, cur, fz, rfl, hB, (Below.heap_alloc w o g (Array.getElem?_eq_some_iff.1 hg).1).trans hg, r⟩
theorem RowM.form (h : RowM w B v l) : ∃ g cap, v = .slice (some ⟨g, 0, none⟩) l.length cap := by
  obtain ⟨g, cap, cur, fz, rfl, _⟩ := h
  exact ⟨g, cap, rfl⟩
theorem RowM.ne_blk (h : RowM w B v l) {g : Nat} {t : TypeId} {cs : Array Value} (hg : Blk w g t cs) (hne : 5 ≠ t) : v.ownBlock ≠ some g := by
  obtain ⟨g', cap, cur, fz, rfl, _, hh, _⟩ := h
  intro he
  have : g' = g := by simpa [Value.ownBlock] using he
  subst this
  have hg' : w.heap[g']? = some (.cells cs t (0, 0)) := hg
  rw [hh] at hg'
  injection hg' with h1
  injection h1 with _ h2 _
  exact hne h2
theorem RowM.text (h : RowM w B v l) : (convert 48 9 v).run Tryd.prog w = .ok (.string (strB l)) w := by
  obtain ⟨g, cap, cur, fz, rfl, _, hg, _, _, _, _, ht⟩ := h
  refine run_convert_bytes_back w 48 9 5 ⟨g, 0, none⟩ cap l Tryd.underlying48 Tryd.underlying5 Tryd.underlying9 (fun j hj => ?_)
  rw [add_none, Nat.zero_add, cell_of_row w g j cur 5 fz hg]
  have h9 : (cur.toList.take l.length)[j]? = some (u8v l[j]) := by rw [ht]; simp [hj]
  rw [List.getElem?_take, if_pos hj] at h9
  simpa [u8v] using h9
end
/-- '[]byte(s)'. -/
theorem run_bytesM (w : World) (B : Nat) (l : Bs) (hB : B ≤ w.heap.size) (hl : l.length ≤ maxLen) : ∃ v w', (convert 9 48 (.string (strB l))).run Tryd.prog w = .ok v w' ∧ RowM w' B v l ∧ Below w.heap.size w w' := by
  have h := run_bytes_of_string (P := Tryd.prog) w 9 48 5 (strB l) Tryd.underlying9 Tryd.underlying48 Tryd.underlying5
  rw [strB_size] at h
  have hge := grownCap_ge w l.length 0 5
  have hcs : (bytesRow (strB l) (grownCap w l.length 0 5)).size = grownCap w l.length 0 5 := by
    unfold bytesRow
    have h9 : (strB l).data.size = l.length := by simp [strB]
    simp only [Array.size_append, Array.size_map, Array.size_replicate, strB_size, h9]
    omega
  refine ⟨_, _, h, ⟨w.heap.size, _, _, _, rfl, hB, heap_alloc_new w.drew _, ?_, hge, grownCap_le_maxLen w l.length 0 5 hl, hcs, ?_⟩, (Below.refl w.heap.size w).drew.alloc (Nat.le_refl _) _⟩
  · intro j hj
    rw [hcs]
    omega
  · unfold bytesRow
    have h9 : ((strB l).data.map fun b => Value.int .u8 (b.toNat : Int)).toList = l.map u8v := by simp [strB, u8v]
    rw [Array.toList_append, h9]
    exact List.take_left' (by simp)

/-- What append does, from the two arms of a source. -/
theorem rowM_put {P : Program} (w : World) (B : Nat) (v : Value) (l m : Bs) (src : Value) (ts : Array TypeId) (ty : TypeId) (h : RowM w B v l) (hB : B ≤ w.heap.size) (hm : l.length + m.length ≤ 140737488355328)
    (room : ∀ (g cap : Nat) (cur : Array Value) (fz : Nat × Nat), w.heap[g]? = some (.cells cur 5 fz) → (∀ j, j < cur.size → ¬ (fz.1 ≤ j ∧ j < fz.2)) → l.length + m.length ≤ cap → cur.size = cap →
      (Builtin.append_ ts ty #[.slice (some ⟨g, 0, none⟩) l.length cap, src]).run P w = .ok (.slice (some ⟨g, 0, none⟩) (l.length + m.length) cap) (w.setRow g (cur.toList.take l.length ++ m.map u8v ++ cur.toList.drop (l.length + m.length)).toArray))
    (grow : ∀ (g cap : Nat), (∀ j u, (l.map u8v)[j]? = some u → w.cell? ((⟨g, 0, none⟩ : Addr).add j) = some u) → cap < l.length + m.length →
      (Builtin.append_ ts ty #[.slice (some ⟨g, 0, none⟩) l.length cap, src]).run P w = .ok (.slice (some ⟨w.heap.size, 0, none⟩) (l.length + m.length) (grownCap w (l.length + m.length) cap 5)) (w.drew.alloc (.cells ((l.map u8v).toArray ++ (m.map u8v).toArray ++ Builtin.zeroCells (Value.int .u8 0).cells (grownCap w (l.length + m.length) cap 5 - (l.length + m.length))) 5))) :
    ∃ v' w', (Builtin.append_ ts ty #[v, src]).run P w = .ok v' w' ∧ RowM w' B v' (l ++ m) ∧ w.grownBy w' v.ownBlock := by
  obtain ⟨g, cap, cur, fz, rfl, hBg, hg, hfz, hlc, hcm, hcs, ht⟩ := h
  by_cases hr : l.length + m.length ≤ cap
  · refine ⟨_, _, room g cap cur fz hg (by rw [hcs]; exact hfz) hr hcs, ⟨g, cap, _, fz, by rw [List.length_append], hBg, setRow_heap w g cur _ 5 _ hg, hfz, by rw [List.length_append]; exact hr, hcm, ?_, ?_⟩, ⟨rfl, rfl, rfl, by simp, fun k _ hk => setRow_other w g k _ (fun e => hk (by simp [Value.ownBlock, e]))⟩⟩
    · simp only [List.size_toArray, List.length_append, List.length_take, List.length_drop, Array.length_toList, List.length_map]
      omega
    · rw [ht, List.length_append, List.map_append]
      exact List.take_left' (by simp)
  · have hcells : ∀ j u, (l.map u8v)[j]? = some u → w.cell? ((⟨g, 0, none⟩ : Addr).add j) = some u := fun j u hu => by
      rw [add_none, Nat.zero_add, cell_of_row w g j cur 5 fz hg]
      rw [← ht, List.getElem?_take] at hu
      split at hu
      · simpa using hu
      · cases hu
    have hge := grownCap_ge w (l.length + m.length) cap 5
    have hcm2 : grownCap w (l.length + m.length) cap 5 ≤ maxLen := grownCap_le_maxLen w (l.length + m.length) cap 5 (by unfold maxLen; omega)
    refine ⟨_, _, grow g cap hcells (by omega), ⟨w.heap.size, _, _, (0, 0), by rw [List.length_append], hB, heap_alloc_new w.drew _, fun j _ => by simp, by rw [List.length_append]; exact hge, hcm2, ?_, ?_⟩, ⟨rfl, rfl, rfl, by simp, fun k hk _ => heap_alloc_old w.drew _ hk⟩⟩
    · have hz1 : (Value.int IntKind.u8 0).cells.size = 1 := rfl
      simp only [Array.size_append, List.size_toArray, size_zeroCells, hz1, List.length_map]
      omega
    · simp only [Array.toList_append, List.append_assoc]
      rw [← List.append_assoc, List.length_append, List.map_append]
      exact List.take_left' (by simp)
theorem run_append_M (w : World) (B : Nat) (v : Value) (l m : Bs) (ty : TypeId) (h : RowM w B v l) (hB : B ≤ w.heap.size) (hm : l.length + m.length ≤ 140737488355328) :
    ∃ v' w', (Builtin.append_ #[48, 9] ty #[v, .string (strB m)]).run Tryd.prog w = .ok v' w' ∧ RowM w' B v' (l ++ m) ∧ w.grownBy w' v.ownBlock := by
  obtain ⟨i, hi, hz0, hz1, hz2⟩ := info_of2 infoU8
  have hss : (strB m).size = m.length := strB_size m
  refine rowM_put (P := Tryd.prog) w B v l m _ _ ty h hB hm (fun g cap cur fz hg hfz hr hcs => ?_) (fun g cap hc hlt => ?_)
  · have hf := Lib.run_firstCells_string (P := Tryd.prog) w 1 (strB m)
    rw [strCells_B, hss] at hf
    have hst := run_storeCells_un Tryd.prog g l.length 5 fz (m.map u8v) 0 cur w hg hfz (by simp; omega) (fun u hu => by obtain ⟨b, _, rfl⟩ := List.mem_map.1 hu; rfl)
    simp only [Nat.add_zero, List.length_map] at hst
    simp [Builtin.append_, run_underlying Tryd.underlying48, run_underlying Tryd.underlying9, sizeOf, typeInfo, hi, hz1, Builtin.lenOf, hss, hr, hf, Addr.add_lit, hst]
  · have h9 := Lib.run_append_grow_string (P := Tryd.prog) w 48 9 ty 5 i (.int .u8 0) Tryd.underlying48 Tryd.underlying9 hi hz0 ⟨g, 0, none⟩ l.length cap (l.map u8v) (by rw [hz1]; simp) hc (strB m) (by rw [hss]; exact hlt) (by rw [hss]; omega) (by rw [hss, hz2]; exact growslice_fits (by omega) (by omega))
    rw [hss, strCells_B] at h9
    exact h9
theorem run_append_M1 (w : World) (B : Nat) (v : Value) (l : Bs) (c : UInt8) (ty : TypeId) (ad : Addr) (k : Nat) (h : RowM w B v l) (hB : B ≤ w.heap.size) (hm : l.length + 1 ≤ 140737488355328) (hc0 : w.cell? ad = some (u8v c)) :
    ∃ v' w', (Builtin.append_ #[48, 48] ty #[v, .slice (some ad) 1 k]).run Tryd.prog w = .ok v' w' ∧ RowM w' B v' (l ++ [c]) ∧ w.grownBy w' v.ownBlock := by
  obtain ⟨i, hi, hz0, hz1, hz2⟩ := info_of2 infoU8
  have hnews : ∀ j u, [u8v c][j]? = some u → w.cell? (ad.add j) = some u := fun j u hu => by
    match j, hu with
    | 0, hu =>
      simp only [List.getElem?_cons_zero, Option.some.injEq] at hu
      subst hu
      rw [show ad.add 0 = ad from by cases ad; unfold Addr.add; split <;> simp_all]
      exact hc0
    | j + 1, hu => simp at hu
  refine rowM_put (P := Tryd.prog) w B v l [c] _ _ ty h hB (by simpa using hm) (fun g cap cur fz hg hfz hr hcs => ?_) (fun g cap hc hlt => ?_)
  · have hf := run_firstCells_some (P := Tryd.prog) w 1 1 ad 1 k [u8v c] rfl hnews
    have hst := run_storeCells_un Tryd.prog g l.length 5 fz [u8v c] 0 cur w hg hfz (by simp at hr ⊢; omega) (fun u hu => by rw [List.mem_singleton.1 hu]; rfl)
    simp only [Nat.add_zero, List.length_cons, List.length_nil, Nat.zero_add] at hst hr
    simp [Builtin.append_, run_underlying Tryd.underlying48, sizeOf, typeInfo, hi, hz1, Builtin.lenOf, hr, hf, Addr.add_lit, hst]
  · have hlt2 : cap < l.length + 1 := by simpa using hlt
    have h9 := run_append_grow (P := Tryd.prog) w 48 ty 5 i (.int .u8 0) Tryd.underlying48 hi hz0 ⟨g, 0, none⟩ l.length cap (l.map u8v) (by rw [hz1]; simp) hc ad 1 k [u8v c] (by rw [hz1]; rfl) hnews (by simpa using hlt) (by omega) (by rw [hz2]; exact growslice_fits (by omega) (by omega))
    exact h9
theorem wpList_append_M {ops : Array Oper} {rest : List Oper} {o : Oper} {a : Act} {Q : Exit → Act → World → Prop} {w : World} (hgd : o.guard = none) (s x : Operand)
    (ho : o.op = .call { callee := .builtin .append, args := #[s, x], argTypes := #[48, 9] }) (B : Nat) (v : Value) (l m : Bs) (T : ByteArray) (hT : strB m = T) (hs : a.eval s = v) (h : RowM w B v l) (hx : a.eval x = .string T)
    (hB : B ≤ w.heap.size) (hm : l.length + m.length ≤ 140737488355328) (K : ∀ v' w', RowM w' B v' (l ++ m) → w.grownBy w' v.ownBlock → wpList Tryd.prog ops Q rest (a.put o.dst v') w') : wpList Tryd.prog ops Q (o :: rest) a w := by
  subst hT
  refine wpList_plain hgd fun K2 hK => ?_
  obtain ⟨v', w', hr, h2, h3⟩ := run_append_M w B v l m o.type h hB hm
  unfold Oper.wp execOp
  simp only [ho, resolve, invoke, builtin, Sem.run_bind, Sem.run_pure, Result.andThen_ok, List.map_toArray, List.map_cons, List.map_nil, hs, hx, hr]
  exact hK _ _ (K v' w' h2 h3)
theorem wpList_append_M1 {ops : Array Oper} {rest : List Oper} {o : Oper} {a : Act} {Q : Exit → Act → World → Prop} {w : World} (hgd : o.guard = none) (s x : Operand)
    (ho : o.op = .call { callee := .builtin .append, args := #[s, x], argTypes := #[48, 48] }) (B : Nat) (v : Value) (l : Bs) (c : UInt8) (ad : Addr) (k : Nat) (hs : a.eval s = v) (h : RowM w B v l) (hx : a.eval x = .slice (some ad) 1 k)
    (hc0 : w.cell? ad = some (u8v c)) (hB : B ≤ w.heap.size) (hm : l.length + 1 ≤ 140737488355328) (K : ∀ v' w', RowM w' B v' (l ++ [c]) → w.grownBy w' v.ownBlock → wpList Tryd.prog ops Q rest (a.put o.dst v') w') : wpList Tryd.prog ops Q (o :: rest) a w := by
  refine wpList_plain hgd fun K2 hK => ?_
  obtain ⟨v', w', hr, h2, h3⟩ := run_append_M1 w B v l c o.type ad k h hB hm hc0
  unfold Oper.wp execOp
  simp only [ho, resolve, invoke, builtin, Sem.run_bind, Sem.run_pure, Result.andThen_ok, List.map_toArray, List.map_cons, List.map_nil, hs, hx, hr]
  exact hK _ _ (K v' w' h2 h3)
theorem join_snoc (sep : Bs) (y : Bs) : ∀ ws : List Bs, ws ≠ [] → Lib.join (ws ++ [y]) sep = Lib.join ws sep ++ sep ++ y
  | [], h => absurd rfl h
  | [x], _ => by simp [join_two, Lib.join_one]
  | x :: z :: r, _ => by
    have ih := join_snoc sep y (z :: r) (by simp)
    simp only [List.cons_append] at ih ⊢
    rw [join_two, join_two, ih]
    simp
theorem propsL_snoc {ps : List (Int × Int)} {k : Nat} {p : Int × Int} (hp : ps[k]? = some p) : propsL (ps.take (k + 1)) = propsL (ps.take k) ++ (if k = 0 then [] else [32]) ++ propW p := by
  have e : ps.take (k + 1) = ps.take k ++ [p] := by rw [List.take_add_one, hp]; rfl
  unfold propsL
  rw [e, List.map_append, List.map_singleton]
  by_cases hk : k = 0
  · subst hk
    simp [Lib.join]
  · rw [if_neg hk, join_snoc]
    have := (List.getElem?_eq_some_iff.1 hp).1
    intro h0
    have h9 := congrArg List.length h0
    simp only [List.length_map, List.length_take, List.length_nil] at h9
    omega
theorem rowsL_snoc {rs : List (List Bool)} {k : Nat} {r : List Bool} (hr : rs[k]? = some r) : rowsL (rs.take (k + 1)) = rowsL (rs.take k) ++ (bitsB r ++ [10]) := by
  have e : rs.take (k + 1) = rs.take k ++ [r] := by rw [List.take_add_one, hr]; rfl
  unfold rowsL
  rw [e]
  simp [lineL]
theorem kind_u8 {p : Int × Int} (h : okP p) : u8v (UInt8.ofNat p.1.toNat) = .int .u8 p.1 := by
  rcases h.1 with h | h <;> rw [h] <;> rfl
end Go.Proofs.YtjbglgmbnjdhcaaDoor

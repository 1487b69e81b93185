/- Copy's drawn region (ten calls whose answers are new lists): by the rule of webs. -/
import Derived.Test.YtdodhbfplglbkaaOrdW
import Derived.Test.YtdodhbfplglbkaaClone
import Derived.Test.YtdodhbfplglbkaaWesM
import Derived.BigRegion
namespace Go.Proofs.Ytdodhbfplglbkaa
open Go.RowKit

theorem region_lit {P : Program} {Q : Exit → Act → World → Prop} {a : Act} {w : World} {id : Nat} {ops : Array Oper} {dr : Bool} (h : ∀ ops', ops' = ops → (Code.region id ops' dr).wp P Q a w) : (Code.region id ops dr).wp P Q a w := h ops rfl
theorem wp_val {P : Program} {o : Oper} {a : Act} {w w' : World} {v : Value} {K : Act → World → Prop} {Q : Exit → Act → World → Prop} (h : (execOp a.eval o).run P w = .ok (.value v) w') (hk : K (a.put o.dst v) w') : o.wp P a w K Q := by
  unfold Oper.wp; rw [h]; exact hk
theorem wp_enter {P : Program} {o : Oper} {a : Act} {w : World} {f : FuncId} {args : Array Value} {K : Act → World → Prop} {Q : Exit → Act → World → Prop} (h : (execOp a.eval o).run P w = .ok (.enter f args) w)
    (hc : Calls P f args w (fun e w' => ∃ v, e = .returned v ∧ K (a.put o.dst v) w')) : o.wp P a w K Q := by
  unfold Oper.wp; rw [h, Oper.upon_enter]
  exact hc.mono (by rintro e w' ⟨v, rfl, hk⟩; exact hk)
theorem own_slice_k {w : World} {B n k : Nat} {t : TypeId} {v : Value} {xs : List Value} (h : w.ownsRow B t k v n xs) : ∃ A c, v = .slice A n c := by
  rcases h.2 with ⟨rfl, rfl⟩ | ⟨g, cap, cur, rfl, _⟩
  · exact ⟨_, _, rfl⟩
  · exact ⟨_, _, rfl⟩
/-- The lists are short enough for memory. -/
structure Circ.Room (C : Circ) : Prop where
  i : C.inputs.length * 8 ≤ 140737488355328
  l : C.latches.length * 24 ≤ 140737488355328
  o : C.outputs.length * 8 ≤ 140737488355328
  b : C.bads.length * 8 ≤ 140737488355328
  c : C.constraints.length * 8 ≤ 140737488355328
  j : C.justice.length * 24 ≤ 140737488355328
  js : ∀ zs ∈ C.justice, zs.length * 8 ≤ 140737488355328
  f : C.fairness.length * 8 ≤ 140737488355328
  a : C.ands.length * 24 ≤ 140737488355328
  s : C.symbols.length * 32 ≤ 140737488355328
  t : C.comments.length * 16 ≤ 140737488355328
/-- New lists of a circuit's members (the justice's own lists as they were). -/
structure CopR (w : World) (B : Nat) (C : Circ) (vs : List Value) (V : CV) : Prop where
  i : w.ownsRow B 3 1 V.i C.inputs.length (C.inputs.flatMap encI)
  l : w.ownsRow B 70 3 V.l C.latches.length (C.latches.flatMap encT)
  o : w.ownsRow B 3 1 V.o C.outputs.length (C.outputs.flatMap encI)
  b : w.ownsRow B 3 1 V.b C.bads.length (C.bads.flatMap encI)
  c : w.ownsRow B 3 1 V.c C.constraints.length (C.constraints.flatMap encI)
  j : w.ownsRow B 22 1 V.j vs.length (vs.flatMap encV)
  f : w.ownsRow B 3 1 V.f C.fairness.length (C.fairness.flatMap encI)
  a : w.ownsRow B 68 3 V.a C.ands.length (C.ands.flatMap encT)
  s : w.ownsRow B 155 3 V.s C.symbols.length (C.symbols.flatMap encS)
  t : w.ownsRow B 9 1 V.t C.comments.length (C.comments.flatMap encB)
  apart : [V.i, V.o, V.b, V.c, V.f].Pairwise (fun x y => ∀ g, x.ownBlock = some g → y.ownBlock ≠ some g)
theorem CopR.below {w w' : World} {B : Nat} {C : Circ} {vs : List Value} {V : CV} (h : CopR w B C vs V) (hb : Below w.heap.size w w') : CopR w' B C vs V :=
  ⟨own_below h.i hb, own_below h.l hb, own_below h.o hb, own_below h.b hb, own_below h.c hb, own_below h.j hb, own_below h.f hb, own_below h.a hb, own_below h.s hb, own_below h.t hb, h.apart⟩
theorem load_at (t : TypeId) (he : ∀ (a : Addr) (w : World), (Instr.loadAt t (.pointer (some a))).run Try.prog w = (load a).run Try.prog w) {a : Addr} {w : World} {v : Value} (h : w.cell? a = some v) : (Instr.loadAt t (.pointer (some a))).run Try.prog w = .ok v w := by
  rw [he, run_load, h]
theorem load_I (a : Addr) (w : World) : (Instr.loadAt 22 (.pointer (some a))).run Try.prog w = (load a).run Try.prog w := by kernel_rfl
theorem load_L (a : Addr) (w : World) : (Instr.loadAt 23 (.pointer (some a))).run Try.prog w = (load a).run Try.prog w := by kernel_rfl
theorem load_A (a : Addr) (w : World) : (Instr.loadAt 25 (.pointer (some a))).run Try.prog w = (load a).run Try.prog w := by kernel_rfl
theorem load_S (a : Addr) (w : World) : (Instr.loadAt 26 (.pointer (some a))).run Try.prog w = (load a).run Try.prog w := by kernel_rfl
theorem load_B (a : Addr) (w : World) : (Instr.loadAt 27 (.pointer (some a))).run Try.prog w = (load a).run Try.prog w := by kernel_rfl
theorem load_V (a : Addr) (w : World) : (Instr.loadAt 24 (.pointer (some a))).run Try.prog w = (load a).run Try.prog w := by kernel_rfl
theorem load_N (a : Addr) (w : World) : (Instr.loadAt 3 (.pointer (some a))).run Try.prog w = (load a).run Try.prog w := by kernel_rfl
theorem field_0 (bx : Nat) (w : World) : (Instr.fieldAt 29 (.pointer (some ⟨bx, 0, none⟩)) 0).run Try.prog w = .ok (.pointer (some ⟨bx, 0, none⟩)) w := by kernel_rfl
theorem field_1 (bx : Nat) (w : World) : (Instr.fieldAt 29 (.pointer (some ⟨bx, 0, none⟩)) 1).run Try.prog w = .ok (.pointer (some ⟨bx, 1, none⟩)) w := by kernel_rfl
theorem field_2 (bx : Nat) (w : World) : (Instr.fieldAt 29 (.pointer (some ⟨bx, 0, none⟩)) 2).run Try.prog w = .ok (.pointer (some ⟨bx, 2, none⟩)) w := by kernel_rfl
theorem field_3 (bx : Nat) (w : World) : (Instr.fieldAt 29 (.pointer (some ⟨bx, 0, none⟩)) 3).run Try.prog w = .ok (.pointer (some ⟨bx, 3, none⟩)) w := by kernel_rfl
theorem field_4 (bx : Nat) (w : World) : (Instr.fieldAt 29 (.pointer (some ⟨bx, 0, none⟩)) 4).run Try.prog w = .ok (.pointer (some ⟨bx, 4, none⟩)) w := by kernel_rfl
theorem field_5 (bx : Nat) (w : World) : (Instr.fieldAt 29 (.pointer (some ⟨bx, 0, none⟩)) 5).run Try.prog w = .ok (.pointer (some ⟨bx, 5, none⟩)) w := by kernel_rfl
theorem field_6 (bx : Nat) (w : World) : (Instr.fieldAt 29 (.pointer (some ⟨bx, 0, none⟩)) 6).run Try.prog w = .ok (.pointer (some ⟨bx, 6, none⟩)) w := by kernel_rfl
theorem field_7 (bx : Nat) (w : World) : (Instr.fieldAt 29 (.pointer (some ⟨bx, 0, none⟩)) 7).run Try.prog w = .ok (.pointer (some ⟨bx, 7, none⟩)) w := by kernel_rfl
theorem field_8 (bx : Nat) (w : World) : (Instr.fieldAt 29 (.pointer (some ⟨bx, 0, none⟩)) 8).run Try.prog w = .ok (.pointer (some ⟨bx, 8, none⟩)) w := by kernel_rfl
theorem field_9 (bx : Nat) (w : World) : (Instr.fieldAt 29 (.pointer (some ⟨bx, 0, none⟩)) 9).run Try.prog w = .ok (.pointer (some ⟨bx, 9, none⟩)) w := by kernel_rfl
theorem field_10 (bx : Nat) (w : World) : (Instr.fieldAt 29 (.pointer (some ⟨bx, 0, none⟩)) 10).run Try.prog w = .ok (.pointer (some ⟨bx, 10, none⟩)) w := by kernel_rfl
theorem run_value {P : Program} {s : Sem Value} {v : Value} {w w' : World} (h : s.run P w = .ok v w') : (do pure (Next.value (← s)) : Sem Next).run P w = .ok (.value v) w' := by
  rw [Sem.run_bind, h]; rfl
def noDst (ops : Array Oper) (t : Tmp) : Bool := (List.range ops.size).all fun j => dstOf ops j != some t
theorem noDst_spec {ops : Array Oper} {t : Tmp} (h : noDst ops t = true) : ∀ j, j < ops.size → dstOf ops j ≠ some t := fun j hj => by
  have := List.all_eq_true.1 h j (List.mem_range.2 hj)
  simpa using this
/-- A row of eleven cells is written, cell by cell. -/
def set11 (w : World) (g : Nat) (v0 v1 v2 v3 v4 v5 v6 v7 v8 v9 v10 : Value) : World := ((((((((((w.setCell ⟨g, 0, none⟩ v0).setCell ⟨g, 1, none⟩ v1).setCell ⟨g, 2, none⟩ v2).setCell ⟨g, 3, none⟩ v3).setCell ⟨g, 4, none⟩ v4).setCell ⟨g, 5, none⟩ v5).setCell ⟨g, 6, none⟩ v6).setCell ⟨g, 7, none⟩ v7).setCell ⟨g, 8, none⟩ v8).setCell ⟨g, 9, none⟩ v9).setCell ⟨g, 10, none⟩ v10
theorem set11_blk {w : World} {g : Nat} {t : TypeId} {u0 u1 u2 u3 u4 u5 u6 u7 u8 u9 u10 : Value} (h : Blk w g t #[u0, u1, u2, u3, u4, u5, u6, u7, u8, u9, u10]) (v0 v1 v2 v3 v4 v5 v6 v7 v8 v9 v10 : Value) : Blk (set11 w g v0 v1 v2 v3 v4 v5 v6 v7 v8 v9 v10) g t #[v0, v1, v2, v3, v4, v5, v6, v7, v8, v9, v10] := by
  unfold set11
  have := ((((((((((h.set_ 0 v0).set_ 1 v1).set_ 2 v2).set_ 3 v3).set_ 4 v4).set_ 5 v5).set_ 6 v6).set_ 7 v7).set_ 8 v8).set_ 9 v9).set_ 10 v10
  simpa using this
theorem set11_other {w : World} {g k : Nat} (hk : k ≠ g) (v0 v1 v2 v3 v4 v5 v6 v7 v8 v9 v10 : Value) : (set11 w g v0 v1 v2 v3 v4 v5 v6 v7 v8 v9 v10).heap[k]? = w.heap[k]? := by
  unfold set11
  iterate 11 rw [Below.heap_setCell _ _ _ _ (by exact hk)]
theorem set11_below {B : Nat} {w0 w : World} {g : Nat} (h : Below B w0 w) (hB : B ≤ g) (v0 v1 v2 v3 v4 v5 v6 v7 v8 v9 v10 : Value) : Below B w0 (set11 w g v0 v1 v2 v3 v4 v5 v6 v7 v8 v9 v10) := by
  unfold set11
  exact ((((((((((h.setCell hB v0).setCell hB v1).setCell hB v2).setCell hB v3).setCell hB v4).setCell hB v5).setCell hB v6).setCell hB v7).setCell hB v8).setCell hB v9).setCell hB v10
theorem box_of {w' : World} {b : Nat} {m : Int} {Vi Vl Vo Vb Vc Vj Vf Va Vs Vt : Value} (h : Blk w' b 29 #[.int .i64 m, Vi, Vl, Vo, Vb, Vc, Vj, Vf, Va, Vs, Vt]) :
    w'.cell? ⟨b, 0, none⟩ = some (.int .i64 m) ∧ w'.cell? ⟨b, 1, none⟩ = some Vi ∧ w'.cell? ⟨b, 2, none⟩ = some Vl ∧ w'.cell? ⟨b, 3, none⟩ = some Vo ∧ w'.cell? ⟨b, 4, none⟩ = some Vb ∧ w'.cell? ⟨b, 5, none⟩ = some Vc ∧ w'.cell? ⟨b, 6, none⟩ = some Vj ∧ w'.cell? ⟨b, 7, none⟩ = some Vf ∧ w'.cell? ⟨b, 8, none⟩ = some Va ∧ w'.cell? ⟨b, 9, none⟩ = some Vs ∧ w'.cell? ⟨b, 10, none⟩ = some Vt :=
  ⟨h.cell 0, h.cell 1, h.cell 2, h.cell 3, h.cell 4, h.cell 5, h.cell 6, h.cell 7, h.cell 8, h.cell 9, h.cell 10⟩

/-- A value that is a slice. -/
def Slc (v : Value) : Prop := ∃ A n c, v = .slice A n c
theorem own_slc {w : World} {B n k : Nat} {t : TypeId} {v : Value} {xs : List Value} (h : w.ownsRow B t k v n xs) : Slc v := by
  obtain ⟨A, c, e⟩ := own_slice_k h
  exact ⟨A, n, c, e⟩
theorem blk_frozen11 {w : World} {g : Nat} {t : TypeId} {cs : Array Value} (h : Blk w g t cs) : w.frozen? ⟨g, 0, none⟩ = false ∧ w.frozen? ⟨g, 1, none⟩ = false ∧ w.frozen? ⟨g, 2, none⟩ = false ∧ w.frozen? ⟨g, 3, none⟩ = false ∧ w.frozen? ⟨g, 4, none⟩ = false ∧ w.frozen? ⟨g, 5, none⟩ = false ∧ w.frozen? ⟨g, 6, none⟩ = false ∧ w.frozen? ⟨g, 7, none⟩ = false ∧ w.frozen? ⟨g, 8, none⟩ = false ∧ w.frozen? ⟨g, 9, none⟩ = false ∧ w.frozen? ⟨g, 10, none⟩ = false :=
  ⟨h.frozen 0, h.frozen 1, h.frozen 2, h.frozen 3, h.frozen 4, h.frozen 5, h.frozen 6, h.frozen 7, h.frozen 8, h.frozen 9, h.frozen 10⟩
end Go.Proofs.Ytdodhbfplglbkaa

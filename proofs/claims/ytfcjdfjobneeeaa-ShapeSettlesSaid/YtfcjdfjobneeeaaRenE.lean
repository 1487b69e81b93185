/- The end of Renumber: what memory holds when all has been written, and what is handed out. -/
import Derived.Test.YtfcjdfjobneeeaaRenT
namespace Go.Proofs.Ytfcjdfjobneeeaa
open Go.RowKit

/-- What a function hands out whose results are a cell of several cells and two slots. -/
theorem results_cell_two {fn : Func} {p q r : Tmp} {ty : TypeId} {P : Program} (h : fn.results = #[.cell p ty, .tmp q, .tmp r]) (tmps : Array Value) (w : World) (g : Nat) (t : TypeId) (cs : Array Value) (fr : Nat × Nat) (d : TypeDesc)
    (hp : tmps.getD p undef = .pointer (some ⟨g, 0, none⟩)) (hg : w.heap[g]? = some (.cells cs t fr))
    (hu : P.underlying ty = some d) (hd : (match d with | .struct _ | .array _ _ => true | _ => false) = true) (hi : (P.info? ty).map (·.size) = some cs.size) (v u : Value) (hv : tmps.getD q undef = v) (hu2 : tmps.getD r undef = u) :
    (results fn tmps).run P w = .ok (.tuple #[.agg cs, v, u]) w := by
  have hp' : tmps[p]?.getD undef = .pointer (some ⟨g, 0, none⟩) := by simpa using hp
  subst hv hu2
  have hl := run_loadVar_row w g t ty cs fr d hg hu (by cases d <;> first | rfl | exact hd) hi
  simp [results, h, hp', asAddr, hl]
theorem zip_mapR {us : List Value} {f : List Int → List Int} : ∀ {us : List Value} {J : List (List Int)}, us.zip (J.map f) = (us.zip J).map (fun p => (p.1, f p.2))
  | [], _ => by simp
  | _ :: _, [] => by simp
  | u :: r, z :: J => by simp [zip_mapR (us := us) (f := f) (J := J)]
theorem ren_cop {w2 X wr wf : World} {bo : Nat} {OUT : Array Value} {gm n : Nat} {M : List Int} {V : CV} {us : List Value} {C C1 : Circ} {v6 : Value} {LV : List Value} {R0 : List (Value × List Int)} {out : List Int} {B : Nat}
    (h : RnL w2 X wr bo OUT gm n M V us C1 v6 LV (R0.map (mvR M))) (hM : newM C out = M) (h1 : C1.latches = C.latches.map (mvL M)) (h2 : C1.ands = out.map (fun g => renAnd M (C.ands.getD g.toNat (0, 0, 0)))) (h3 : C1.symbols = C.symbols) (h4 : C1.comments = C.comments)
    (hR0 : R0 = us.zip C.justice ++ five V C) (hul : us.length = C.justice.length) (hB : B ≤ w2.heap.size) (hk : ∀ g, w2.heap.size ≤ g → wf.heap[g]? = wr.heap[g]?) : Cop wf B V us (renC C out) := by
  have keep : ∀ {t : TypeId} {k n : Nat} {v : Value} {xs : List Value}, wr.ownsRow w2.heap.size t k v n xs → wf.ownsRow B t k v n xs := fun ho =>
    own_base (own_of_block ho fun g hg => hk g (ho.lt g hg).1) hB
  have hfam : R0.map (mvR M) = us.zip (renC C out).justice ++ five V (renC C out) := by
    subst hR0
    rw [List.map_append]
    congr 1
    · show _ = us.zip (C.justice.map _)
      rw [hM, zip_mapR (us := us)]
      rfl
    · simp only [five, renC, hM, List.map_cons, List.map_nil, mvR]
  have hf := h.fam
  rw [hfam] at hf
  have hl := h.l
  have ha := h.a
  have hs := h.s
  have ht := h.t
  rw [h1] at hl
  rw [h2] at ha
  rw [h3] at hs
  rw [h4] at ht
  have hf2 := fam_comm hf
  refine ⟨⟨fun p hp => keep (hf2.own p hp), hf2.apart⟩, by simpa [renC] using hul, keep h.j, ?_, ?_, keep hs, keep ht⟩
  · have := keep hl
    rw [← hM] at this
    exact this
  · have := keep ha
    rw [← hM] at this
    exact this
theorem nums_own {w : World} {B g : Nat} {L : List Int} (h : Nums w g L) (hB : B ≤ g) (hm : L.length ≤ maxLen) : w.ownsRow B 3 1 (.slice (some ⟨g, 0, none⟩) L.length L.length) L.length (L.map (Value.int .i64)) :=
  ⟨by simp, .inr ⟨g, L.length, (L.map (Value.int .i64)).toArray, rfl, hB, h, Nat.le_refl _, hm, by simp, by simp [List.take_of_length_le]⟩⟩
/-- A row of eleven cells is written, cell by cell. -/
def set11 (w : World) (g : Nat) (v0 v1 v2 v3 v4 v5 v6 v7 v8 v9 v10 : Value) : World := ((((((((((w.setCell ⟨g, 0, none⟩ v0).setCell ⟨g, 1, none⟩ v1).setCell ⟨g, 2, none⟩ v2).setCell ⟨g, 3, none⟩ v3).setCell ⟨g, 4, none⟩ v4).setCell ⟨g, 5, none⟩ v5).setCell ⟨g, 6, none⟩ v6).setCell ⟨g, 7, none⟩ v7).setCell ⟨g, 8, none⟩ v8).setCell ⟨g, 9, none⟩ v9).setCell ⟨g, 10, none⟩ v10
theorem set11_blk {w : World} {g : Nat} {t : TypeId} {u0 u1 u2 u3 u4 u5 u6 u7 u8 u9 u10 : Value} (h : Blk w g t #[u0, u1, u2, u3, u4, u5, u6, u7, u8, u9, u10]) (v0 v1 v2 v3 v4 v5 v6 v7 v8 v9 v10 : Value) : Blk (set11 w g v0 v1 v2 v3 v4 v5 v6 v7 v8 v9 v10) g t #[v0, v1, v2, v3, v4, v5, v6, v7, v8, v9, v10] := by
  unfold set11
  have := ((((((((((h.set_ 0 v0).set_ 1 v1).set_ 2 v2).set_ 3 v3).set_ 4 v4).set_ 5 v5).set_ 6 v6).set_ 7 v7).set_ 8 v8).set_ 9 v9).set_ 10 v10
  simpa using this
theorem set11_other {w : World} {g k : Nat} (hk : k ≠ g) (v0 v1 v2 v3 v4 v5 v6 v7 v8 v9 v10 : Value) : (set11 w g v0 v1 v2 v3 v4 v5 v6 v7 v8 v9 v10).heap[k]? = w.heap[k]? := by
  unfold set11
  iterate 11 rw [Below.heap_setCell _ _ _ _ (by exact hk)]
theorem set11_below {B : Nat} {w0 w : World} {g : Nat} (h : Below B w0 w) (hB : B ≤ g) (v0 v1 v2 v3 v4 v5 v6 v7 v8 v9 v10 : Value) : Below B w0 (set11 w g v0 v1 v2 v3 v4 v5 v6 v7 v8 v9 v10) := by
  unfold set11
  exact ((((((((((h.setCell hB v0).setCell hB v1).setCell hB v2).setCell hB v3).setCell hB v4).setCell hB v5).setCell hB v6).setCell hB v7).setCell hB v8).setCell hB v9).setCell hB v10
theorem blk_frozen11 {w : World} {g : Nat} {t : TypeId} {cs : Array Value} (h : Blk w g t cs) : w.frozen? ⟨g, 0, none⟩ = false ∧ w.frozen? ⟨g, 1, none⟩ = false ∧ w.frozen? ⟨g, 2, none⟩ = false ∧ w.frozen? ⟨g, 3, none⟩ = false ∧ w.frozen? ⟨g, 4, none⟩ = false ∧ w.frozen? ⟨g, 5, none⟩ = false ∧ w.frozen? ⟨g, 6, none⟩ = false ∧ w.frozen? ⟨g, 7, none⟩ = false ∧ w.frozen? ⟨g, 8, none⟩ = false ∧ w.frozen? ⟨g, 9, none⟩ = false ∧ w.frozen? ⟨g, 10, none⟩ = false :=
  ⟨h.frozen 0, h.frozen 1, h.frozen 2, h.frozen 3, h.frozen 4, h.frozen 5, h.frozen 6, h.frozen 7, h.frozen 8, h.frozen 9, h.frozen 10⟩
end Go.Proofs.Ytfcjdfjobneeeaa

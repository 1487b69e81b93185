/- A statement's argument that is a circuit, with room for one thing more in each list. -/
import Derived.Test.YtdodhbfplglbkaaCopyR
import Derived.Test.YtdodhbfplglbkaaLift
import Derived.Deep.Grids
import Derived.Deep.Strs
import Derived.ChangeMaps5
namespace Go.Proofs.Ytdodhbfplglbkaa
open Go.ChangeShapes Go.WideShapes Go.ChangeAt Go.RowKit

section
variable {H : Type} {enc : TypeId × Value → H} {W : World}

/-- How a list of an argument reads: its things, each by its own word. -/
def ReadsAs {E : Type} (Q : E → DataW H → Prop) (d : DataW H) (zs : List E) : Prop :=
  (d = .nil ∧ zs = []) ∨ ∃ es sp, d = .slice es sp ∧ es.length = zs.length ∧ ∀ (i : Nat) (z : E) (x : DataW H), zs[i]? = some z → es[i]? = some x → Q z x

theorem arg_run {E : Type} [Inhabited E] {enc' : E → List Value} {k : Nat} {Q : E → DataW H → Prop} {t e : TypeId} {n : Nat} {cs : List Value} {y : DataW H × List MemPlace}
    (ht : Try.prog.underlying t = some (.slice e)) (hc : Try.prog.cellsOf e = k) (hk : ∀ z, (enc' z).length = k) (hk0 : 0 < k)
    (hel : ∀ (cs : List Value) (n : Nat) (x : DataW H × List MemPlace), cs.length = k → DataW.trod enc Try.prog W 0 (fun _ => true) true n e cs = some x → (∀ p ∈ x.2, p.block < W.heap.size) → ∃ z, cs = enc' z ∧ Q z x.1)
    (h : DataW.trod enc Try.prog W 0 (fun _ => true) true n t cs = some y) (hlt : ∀ x ∈ y.2, x.block < W.heap.size) :
    ∃ v zs, cs = [v] ∧ RowE k enc' W v zs ∧ ReadsAs Q y.1 zs := by
  rcases Go.Deep.open_slice ht h with ⟨rfl, rfl⟩ | ⟨a, len, cap, m, n', D, Pl, rfl, _, hl, hm, hmm, rfl, hx⟩
  · exact ⟨_, [], rfl, RowE.nil _ _ _ (by simp [maxLen]), .inl ⟨rfl, rfl⟩⟩
  · simp only [if_true] at hmm
    rw [hc] at hx
    have each : ∀ i, i < len → ∃ z, W.cells? 0 (a.add (i * k)) k = some (enc' z) ∧ Q z (D i) := fun i hi => by
      obtain ⟨cs', h1, h2⟩ := hx i (by omega)
      obtain ⟨_, hlen, _⟩ := World.cells?_some h1
      obtain ⟨z, e1, e2⟩ := hel cs' n' (D i, Pl i) hlen h2 (fun p hp => hlt p (List.mem_append_right _ (List.mem_flatMap.2 ⟨i, List.mem_range.2 (by omega), hp⟩)))
      exact ⟨z, e1 ▸ h1, e2⟩
    obtain ⟨Z, hZ⟩ := Go.Deep.choose_lt each
    refine ⟨_, (List.range len).map Z, rfl, ?_, .inr ⟨_, _, rfl, by simp, fun i z x hz hx => ?_⟩⟩
    · refine ⟨some a, cap, by simp, by simpa using hl, hm, fun i z hz => ?_⟩
      obtain ⟨b, off, spot⟩ := a
      have hi : i < len := by have := (List.getElem?_eq_some_iff.1 hz).1; simpa using this
      have ez : z = Z i := by simp [hi] at hz; exact hz.symm
      subst ez
      obtain ⟨_, _, hcell⟩ := World.cells?_some (hZ i hi).1
      have h0 := hcell 0 hk0
      rw [Go.Deep.add_add, List.getElem?_eq_getElem (by rw [hk]; exact hk0)] at h0
      have hspot : spot = none := by
        obtain ⟨_, _, hc0⟩ := World.cells?_some (hZ 0 (by omega)).1
        have h1 := hc0 0 hk0
        rw [Go.Deep.add_add, List.getElem?_eq_getElem (by rw [hk]; exact hk0)] at h1
        have := World.cell?_spot h1
        simpa [Addr.add] using this
      subst hspot
      refine ⟨b, off, rfl, ?_, fun j u hu => ?_⟩
      · exact hlt (.cell b off) (List.mem_append_left _ (MemPlace.mem_row.2 ⟨0, by rw [hc]; exact Nat.mul_pos (by omega) hk0, by simp⟩))
      · have hj : j < k := by rw [← hk (Z i)]; exact (List.getElem?_eq_some_iff.1 hu).1
        have := hcell j hj
        rw [Go.Deep.add_add, Go.WideShapes.add_plain] at this
        rw [this]; exact hu
    · have hi : i < len := by have := (List.getElem?_eq_some_iff.1 hz).1; simpa using this
      simp [hi] at hz hx
      subst hz hx
      exact (hZ i hi).2

theorem int_word {a : Int} (h : (Lit.int .i64 a).wf = true) : I64 a := by simpa [I64, Lit.wf, IntKind.min, IntKind.max, IntKind.signed, IntKind.bits] using h
theorem cell_int {cs : List Value} {n : Nat} {x : DataW H × List MemPlace} (h : DataW.trod enc Try.prog W 0 (fun _ => true) true n 3 cs = some x) : ∃ z, cs = encI z ∧ I64 z := by
  obtain ⟨z, h1, _, h3⟩ := DataW.trod_int Try.underlying3 h
  exact ⟨z, h1, int_word h3⟩
theorem three {cs : List Value} (h : cs.length = 3) : ∃ a b c, cs = [a, b, c] := by
  match cs, h with
  | [a, b, c], _ => exact ⟨a, b, c, rfl⟩
theorem one_int : Try.prog.cellsOf 3 = 1 := by kernel_rfl
theorem one_u8 : Try.prog.cellsOf 5 = 1 := by kernel_rfl
theorem one_str : Try.prog.cellsOf 9 = 1 := by kernel_rfl
theorem one_ints : Try.prog.cellsOf 22 = 1 := by kernel_rfl
theorem cell_latch {cs : List Value} {n : Nat} {x : DataW H × List MemPlace} (hl : cs.length = 3) (h : DataW.trod enc Try.prog W 0 (fun _ => true) true n 70 cs = some x) : ∃ z, cs = encT z ∧ I64T z := by
  obtain ⟨a, b, c, rfl⟩ := three hl
  obtain ⟨y0, y1, y2, n', _, _, h0, h1, h2⟩ := Go.Deep.trod_struct3 Try.underlying70 h
  simp [one_int] at h0 h1 h2
  obtain ⟨z0, e0, w0⟩ := cell_int h0
  obtain ⟨z1, e1, w1⟩ := cell_int h1
  obtain ⟨z2, e2, w2⟩ := cell_int h2
  simp only [encI, List.cons.injEq, and_true] at e0 e1 e2
  subst e0 e1 e2
  exact ⟨(z0, z1, z2), rfl, w0, w1, w2⟩
theorem cell_and {cs : List Value} {n : Nat} {x : DataW H × List MemPlace} (hl : cs.length = 3) (h : DataW.trod enc Try.prog W 0 (fun _ => true) true n 68 cs = some x) : ∃ z, cs = encT z ∧ I64T z := by
  obtain ⟨a, b, c, rfl⟩ := three hl
  obtain ⟨y0, y1, y2, n', _, _, h0, h1, h2⟩ := Go.Deep.trod_struct3 Try.underlying68 h
  simp [one_int] at h0 h1 h2
  obtain ⟨z0, e0, w0⟩ := cell_int h0
  obtain ⟨z1, e1, w1⟩ := cell_int h1
  obtain ⟨z2, e2, w2⟩ := cell_int h2
  simp only [encI, List.cons.injEq, and_true] at e0 e1 e2
  subst e0 e1 e2
  exact ⟨(z0, z1, z2), rfl, w0, w1, w2⟩
instance : Inhabited Sym := ⟨⟨0, 0, ByteArray.empty⟩⟩
def SymOk (z : Sym) : Prop := (0 ≤ z.kind ∧ z.kind ≤ 255 ∧ I64 z.at_) ∧ z.name.size ≤ maxLen
theorem cell_sym {cs : List Value} {n : Nat} {x : DataW H × List MemPlace} (hl : cs.length = 3) (h : DataW.trod enc Try.prog W 0 (fun _ => true) true n 155 cs = some x) : ∃ z, cs = encS z ∧ SymOk z := by
  obtain ⟨a, b, c, rfl⟩ := three hl
  obtain ⟨y0, y1, y2, n', _, _, h0, h1, h2⟩ := Go.Deep.trod_struct3 Try.underlying155 h
  simp [one_int, one_u8, one_str] at h0 h1 h2
  obtain ⟨z0, e0, _, w0⟩ := DataW.trod_int Try.underlying5 h0
  obtain ⟨z1, e1, w1⟩ := cell_int h1
  obtain ⟨z2, e2, _, w2⟩ := DataW.trod_string Try.underlying9 h2
  simp only [encI, List.cons.injEq, and_true] at e0 e1 e2
  subst e0 e1 e2
  have : 0 ≤ z0 ∧ z0 ≤ 255 := by simpa [Lit.wf, IntKind.min, IntKind.max, IntKind.signed, IntKind.bits] using w0
  exact ⟨⟨z0, z1, z2⟩, rfl, ⟨this.1, this.2, w1⟩, w2⟩

theorem each_all {ts : List TypeId} {ds : List (DataW H)} {j : Nat} {t : TypeId} {d : DataW H} (h : (DataW.weightsEach Try.prog ts ds).all (· ≤ reachBytes) = true) (h1 : ts[j]? = some t) (h2 : ds[j]? = some d) : (d.weights Try.prog t).all (· ≤ reachBytes) = true :=
  List.all_eq_true.2 fun n hn => List.all_eq_true.1 h n (DataW.weights_mem_each h1 h2 n hn)
theorem all_all {e : TypeId} : ∀ {ds : List (DataW H)}, (DataW.weightsAll Try.prog e ds).all (· ≤ reachBytes) = true → ∀ d ∈ ds, (d.weights Try.prog e).all (· ≤ reachBytes) = true
  | [], _, d, hd => by simp at hd
  | x :: r, h, d, hd => by
    rw [DataW.weightsAll, List.all_append, Bool.and_eq_true] at h
    rcases List.mem_cons.1 hd with rfl | hd
    · exact h.1
    · exact all_all h.2 d hd
theorem mem_get {E : Type} {P : E → Prop} {zs : List E} (h : ∀ (i : Nat) (z : E), zs[i]? = some z → P z) : ∀ z ∈ zs, P z := fun z hz => by
  obtain ⟨i, hi⟩ := List.getElem?_of_mem hz
  exact h i z hi

end
end Go.Proofs.Ytdodhbfplglbkaa

namespace Go.Proofs.Ytdodhbfplglbkaa
open Go.ChangeShapes Go.WideShapes Go.ChangeAt Go.RowKit

/-- There is room for one thing more in the lists that are lent. -/
structure Circ.Reach (C : Circ) : Prop where
  i : C.inputs.length * 8 ≤ 140737488351232
  o : C.outputs.length * 8 ≤ 140737488351232
  b : C.bads.length * 8 ≤ 140737488351232
  c : C.constraints.length * 8 ≤ 140737488351232
  f : C.fairness.length * 8 ≤ 140737488351232
  l : C.latches.length * 24 ≤ 140737488351232
  a : C.ands.length * 24 ≤ 140737488351232
  t : ∀ s ∈ C.comments, s.size ≤ maxLen
section
variable {H : Type} {enc : TypeId × Value → H} {W : World}
theorem list_allR {E : Type} {Q : E → DataW H → Prop} {t e : TypeId} {d : DataW H} {zs : List E} {b : Nat} (ht : Try.prog.underlying t = some (.slice e)) (hb : Try.prog.bytesOf e = b) (hd : ReadsAs Q d zs) (h : (d.weights Try.prog t).all (· ≤ reachBytes) = true) :
    zs.length * b ≤ 140737488351232 ∧ ∀ (i : Nat) (z : E), zs[i]? = some z → ∃ x, Q z x ∧ (x.weights Try.prog e).all (· ≤ reachBytes) = true := by
  rcases hd with ⟨_, rfl⟩ | ⟨es, sp, rfl, hl, hq⟩
  · simp
  · rw [DataW.weights, ht] at h
    simp only [List.all_cons, List.all_append, Bool.and_eq_true, decide_eq_true_eq, hb] at h
    refine ⟨?_, fun i z hz => ?_⟩
    · rw [← hl]
      have := Nat.le_trans (Nat.mul_le_mul_right b (Nat.le_add_right es.length sp.length)) h.1
      simp only [reachBytes] at this
      omega
    · have hi : i < es.length := by rw [hl]; exact (List.getElem?_eq_some_iff.1 hz).1
      have hx := List.getElem?_eq_getElem hi
      exact ⟨_, hq i z _ hz hx, all_all h.2.1 _ (List.mem_of_getElem? hx)⟩

set_option maxRecDepth 10000 in
set_option maxHeartbeats 1000000 in
/-- A circuit that is handed in. -/
theorem arg_circR {base : Nat} {v : Value} {d : DataW H} {ps : List MemPlace}
    (hval : Value.okWide Try.prog W .any base 29 v) (h : DataW.Trod enc Try.prog W 0 (fun _ => true) true 29 v d ps) (hlt : ∀ x ∈ ps, x.block < W.heap.size)
    (hsz : (d.weights Try.prog 29).all (· ≤ reachBytes) = true) :
    ∃ (V : CV) (C : Circ), v = CV.val V C.max ∧ C.In W V ∧ C.Ok ∧ C.Room ∧ C.Reach := by
  obtain ⟨cs, rfl, hcs⟩ := okWide_struct Try.underlying29 hval
  obtain ⟨fuel, hf⟩ := h
  obtain ⟨xs, n, _, hx, hl, hxl, hfi⟩ := DataW.trod_struct Try.underlying29 hf
  simp only [Prod.mk.injEq] at hx
  obtain ⟨rfl, rfl⟩ := hx
  have hcl : cs.size = 11 := by rw [hcs]; kernel_rfl
  obtain ⟨l⟩ := cs
  match l, hcl with
  | [c0, c1, c2, c3, c4, c5, c6, c7, c8, c9, c10], _ =>
  match xs, hxl with
  | [y0, y1, y2, y3, y4, y5, y6, y7, y8, y9, y10], _ =>
  have f0 := hfi 0 _ rfl
  have f1 := hfi 1 _ rfl
  have f2 := hfi 2 _ rfl
  have f3 := hfi 3 _ rfl
  have f4 := hfi 4 _ rfl
  have f5 := hfi 5 _ rfl
  have f6 := hfi 6 _ rfl
  have f7 := hfi 7 _ rfl
  have f8 := hfi 8 _ rfl
  have f9 := hfi 9 _ rfl
  have f10 := hfi 10 _ rfl
  simp [Value.cells, one_int, one_ints, show Try.prog.cellsOf 23 = 1 by kernel_rfl, show Try.prog.cellsOf 24 = 1 by kernel_rfl, show Try.prog.cellsOf 25 = 1 by kernel_rfl, show Try.prog.cellsOf 26 = 1 by kernel_rfl, show Try.prog.cellsOf 27 = 1 by kernel_rfl] at f0 f1 f2 f3 f4 f5 f6 f7 f8 f9 f10
  have hlt' : ∀ y ∈ [y0, y1, y2, y3, y4, y5, y6, y7, y8, y9, y10], ∀ x ∈ y.2, x.block < W.heap.size := fun y hy x hxy => hlt x (List.mem_flatMap.2 ⟨y, hy, hxy⟩)
  rw [DataW.weights, Try.underlying29] at hsz
  have ints : ∀ {c : Value} {y : DataW H × List MemPlace}, DataW.trod enc Try.prog W 0 (fun _ => true) true n 22 [c] = some y → (∀ x ∈ y.2, x.block < W.heap.size) → ∃ zs, RowE 1 encI W c zs ∧ ReadsAs (fun z _ => I64 z) y.1 zs := fun hc hy => by
    obtain ⟨v, zs, e, h1, h2⟩ := arg_run (enc' := encI) (Q := fun z _ => I64 z) Try.underlying22 one_int lenI (by omega) (fun cs n x _ h _ => cell_int h) hc hy
    simp only [List.cons.injEq, and_true] at e
    subst e
    exact ⟨zs, h1, h2⟩
  obtain ⟨m, e0, hm⟩ := cell_int f0
  obtain ⟨zi, ri, di⟩ := ints f1 (hlt' y1 (by simp))
  obtain ⟨v2, zl, e2, rl, dl⟩ := arg_run (enc' := encT) (Q := fun z _ => I64T z) Try.underlying23 (by kernel_rfl) lenT (by omega) (fun cs n x hl h _ => cell_latch hl h) f2 (hlt' y2 (by simp))
  obtain ⟨zo, ro, do_⟩ := ints f3 (hlt' y3 (by simp))
  obtain ⟨zb, rb, db⟩ := ints f4 (hlt' y4 (by simp))
  obtain ⟨zc, rc, dc⟩ := ints f5 (hlt' y5 (by simp))
  obtain ⟨v6, vs, e6, rj, dj⟩ := arg_run (enc' := encV) (Q := fun u x => ∃ zs, RowE 1 encI W u zs ∧ ReadsAs (fun z _ => I64 z) x zs) Try.underlying24 one_ints lenV (by omega) (fun cs n x hl h hx => by
    obtain ⟨v, zs, e, h1, h2⟩ := arg_run (enc' := encI) (Q := fun z _ => I64 z) Try.underlying22 one_int lenI (by omega) (fun cs n x _ h _ => cell_int h) h hx
    exact ⟨v, e, zs, h1, h2⟩) f6 (hlt' y6 (by simp))
  obtain ⟨zf, rf, df⟩ := ints f7 (hlt' y7 (by simp))
  obtain ⟨v8, za, e8, ra, da⟩ := arg_run (enc' := encT) (Q := fun z _ => I64T z) Try.underlying25 (by kernel_rfl) lenT (by omega) (fun cs n x hl h _ => cell_and hl h) f8 (hlt' y8 (by simp))
  obtain ⟨v9, zs, e9, rs, ds⟩ := arg_run (enc' := encS) (Q := fun z _ => SymOk z) Try.underlying26 (by kernel_rfl) lenS (by omega) (fun cs n x hl h _ => cell_sym hl h) f9 (hlt' y9 (by simp))
  obtain ⟨v10, zt, e10, rt, dt⟩ := arg_run (enc' := encB) (Q := fun z _ => z.size ≤ maxLen) Try.underlying27 one_str lenB (by omega) (fun cs n x _ h _ => by
    obtain ⟨z, e, _, w⟩ := DataW.trod_string Try.underlying9 h
    exact ⟨z, e, w⟩) f10 (hlt' y10 (by simp))
  simp only [encI, List.cons.injEq, and_true] at e0 e2 e6 e8 e9 e10
  subst e0 e2 e6 e8 e9 e10
  have wi := list_allR Try.underlying22 (b := 8) (by kernel_rfl) di (each_all hsz (j := 1) rfl rfl)
  have wl := list_allR Try.underlying23 (b := 24) (by kernel_rfl) dl (each_all hsz (j := 2) rfl rfl)
  have wo := list_allR Try.underlying22 (b := 8) (by kernel_rfl) do_ (each_all hsz (j := 3) rfl rfl)
  have wb := list_allR Try.underlying22 (b := 8) (by kernel_rfl) db (each_all hsz (j := 4) rfl rfl)
  have wc := list_allR Try.underlying22 (b := 8) (by kernel_rfl) dc (each_all hsz (j := 5) rfl rfl)
  have wj := list_allR Try.underlying24 (b := 24) (by kernel_rfl) dj (each_all hsz (j := 6) rfl rfl)
  have wf := list_allR Try.underlying22 (b := 8) (by kernel_rfl) df (each_all hsz (j := 7) rfl rfl)
  have wa := list_allR Try.underlying25 (b := 24) (by kernel_rfl) da (each_all hsz (j := 8) rfl rfl)
  have ws := list_allR Try.underlying26 (b := 32) (by kernel_rfl) ds (each_all hsz (j := 9) rfl rfl)
  have wt := list_allR Try.underlying27 (b := 16) (by kernel_rfl) dt (each_all hsz (j := 10) rfl rfl)
  have big : ∀ {n : Nat}, n ≤ 140737488351232 → n ≤ 140737488355328 := fun h => by omega
  have hjj : ∀ i, i < vs.length → ∃ js : List Int, RowE 1 encI W (vs.getD i undef) js ∧ js.length * 8 ≤ 140737488355328 ∧ ∀ z ∈ js, I64 z := fun i hi => by
    have hu := List.getElem?_eq_getElem hi
    obtain ⟨x, ⟨js, h1, h2⟩, h3⟩ := wj.2 i _ hu
    have h4 := list_allR Try.underlying22 (b := 8) (by kernel_rfl) h2 h3
    refine ⟨js, by simpa [List.getD, hu] using h1, big h4.1, mem_get fun i z hz => ?_⟩
    obtain ⟨_, q, _⟩ := h4.2 i z hz
    exact q
  obtain ⟨J, hJ⟩ := Go.Deep.choose_lt hjj
  refine ⟨⟨c1, c2, c3, c4, c5, c6, c7, c8, c9, c10⟩, ⟨m, zi, zl, zo, zb, zc, (List.range vs.length).map J, zf, za, zs, zt⟩, rfl,
    ⟨ri, rl, ro, rb, rc, ⟨vs, rj, by simp, fun i u q hu hq => ?_⟩, rf, ra, rs, rt⟩,
    ⟨hm, mem_get fun i z hz => (wi.2 i z hz).choose_spec.1, mem_get fun i z hz => (wl.2 i z hz).choose_spec.1, mem_get fun i z hz => (wo.2 i z hz).choose_spec.1, mem_get fun i z hz => (wb.2 i z hz).choose_spec.1, mem_get fun i z hz => (wc.2 i z hz).choose_spec.1,
      fun q hq => ?_, mem_get fun i z hz => (wf.2 i z hz).choose_spec.1, mem_get fun i z hz => (wa.2 i z hz).choose_spec.1, mem_get fun i z hz => (ws.2 i z hz).choose_spec.1.1, mem_get fun i z hz => (ws.2 i z hz).choose_spec.1.2⟩,
    ⟨big wi.1, big wl.1, big wo.1, big wb.1, big wc.1, big (by simpa using wj.1), fun q hq => ?_, big wf.1, big wa.1, big ws.1, big wt.1⟩, ⟨wi.1, wo.1, wb.1, wc.1, wf.1, wl.1, wa.1, mem_get fun i z hz => (wt.2 i z hz).choose_spec.1⟩⟩
  · have hi : i < vs.length := (List.getElem?_eq_some_iff.1 hu).1
    simp [hi] at hq
    subst hq
    have := (hJ i hi).1
    simpa [List.getD, hu] using this
  · obtain ⟨i, hi, rfl⟩ := List.mem_map.1 hq
    exact (hJ i (List.mem_range.1 hi)).2.2
  · obtain ⟨i, hi, rfl⟩ := List.mem_map.1 hq
    exact (hJ i (List.mem_range.1 hi)).2.1
end
end Go.Proofs.Ytdodhbfplglbkaa

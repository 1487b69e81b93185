/- A statement's argument that is a circuit, with room for one thing more in each list. -/
import Derived.Test.YtjbglgmbnjdhcaaDoorCopyR
import Derived.Test.YtjbglgmbnjdhcaaDoorLift
import Derived.Deep.Grids
import Derived.Deep.Strs
import Derived.ChangeMaps5
namespace Go.Proofs.YtjbglgmbnjdhcaaDoor
open Go.ChangeShapes Go.WideShapes Go.ChangeAt Go.RowKit

section
variable {H : Type} {enc : TypeId × Value → H} {W : World}

/-- How a list of an argument reads: its things, each by its own word. -/
def ReadsAs {E : Type} (Q : E → DataW H → Prop) (d : DataW H) (zs : List E) : Prop :=
  (d = .nil ∧ zs = []) ∨ ∃ es sp, d = .slice es sp ∧ es.length = zs.length ∧ ∀ (i : Nat) (z : E) (x : DataW H), zs[i]? = some z → es[i]? = some x → Q z x

theorem arg_run {E : Type} [Inhabited E] {enc' : E → List Value} {k : Nat} {Q : E → DataW H → Prop} {t e : TypeId} {n : Nat} {cs : List Value} {y : DataW H × List MemPlace}
    (ht : Tryd.prog.underlying t = some (.slice e)) (hc : Tryd.prog.cellsOf e = k) (hk : ∀ z, (enc' z).length = k) (hk0 : 0 < k)
    (hel : ∀ (cs : List Value) (n : Nat) (x : DataW H × List MemPlace), cs.length = k → DataW.trod enc Tryd.prog W 0 (fun _ => true) true n e cs = some x → (∀ p ∈ x.2, p.block < W.heap.size) → ∃ z, cs = enc' z ∧ Q z x.1)
    (h : DataW.trod enc Tryd.prog W 0 (fun _ => true) true n t cs = some y) (hlt : ∀ x ∈ y.2, x.block < W.heap.size) :
    ∃ v zs, cs = [v] ∧ RowE k enc' W v zs ∧ ReadsAs Q y.1 zs := by
  rcases Go.Deep.open_slice ht h with ⟨rfl, rfl⟩ | ⟨a, len, cap, m, n', D, Pl, rfl, _, hl, hm, hmm, rfl, hx⟩
  · exact ⟨_, [], rfl, RowE.nil _ _ _ (by simp [maxLen]), .inl ⟨rfl, rfl⟩⟩
  · simp only [if_true] at hmm
    rw [hc] at hx
    have each : ∀ i, i < len → ∃ z, W.cells? 0 (a.add (i * k)) k = some (enc' z) ∧ Q z (D i) := fun i hi => by
      obtain ⟨cs', h1, h2⟩ := hx i (by omega)
      obtain ⟨_, hlen, _⟩ := World.cells?_some h1
      obtain ⟨z, e1, e2⟩ := hel cs' n' (D i, Pl i) hlen h2 (fun p hp => hlt p (List.mem_append_right _ (List.mem_flatMap.2 ⟨i, List.mem_range.2 (by omega), hp⟩)))
      exact ⟨z, e1 ▸ h1, e2⟩
    obtain ⟨Z, hZ⟩ := Go.Deep.choose_lt each
    refine ⟨_, (List.range len).map Z, rfl, ?_, .inr ⟨_, _, rfl, by simp, fun i z x hz hx => ?_⟩⟩
    · refine ⟨some a, cap, by simp, by simpa using hl, hm, fun i z hz => ?_⟩
      obtain ⟨b, off, spot⟩ := a
      have hi : i < len := by have := (List.getElem?_eq_some_iff.1 hz).1; simpa using this
      have ez : z = Z i := by simp [hi] at hz; exact hz.symm
      subst ez
      obtain ⟨_, _, hcell⟩ := World.cells?_some (hZ i hi).1
      have h0 := hcell 0 hk0
      rw [Go.Deep.add_add, List.getElem?_eq_getElem (by rw [hk]; exact hk0)] at h0
      have hspot : spot = none := by
        obtain ⟨_, _, hc0⟩ := World.cells?_some (hZ 0 (by omega)).1
        have h1 := hc0 0 hk0
        rw [Go.Deep.add_add, List.getElem?_eq_getElem (by rw [hk]; exact hk0)] at h1
        have := World.cell?_spot h1
        simpa [Addr.add] using this
      subst hspot
      refine ⟨b, off, rfl, ?_, fun j u hu => ?_⟩
      · exact hlt (.cell b off) (List.mem_append_left _ (MemPlace.mem_row.2 ⟨0, by rw [hc]; exact Nat.mul_pos (by omega) hk0, by simp⟩))
      · have hj : j < k := by rw [← hk (Z i)]; exact (List.getElem?_eq_some_iff.1 hu).1
        have := hcell j hj
        rw [Go.Deep.add_add, Go.WideShapes.add_plain] at this
        rw [this]; exact hu
    · have hi : i < len := by have := (List.getElem?_eq_some_iff.1 hz).1; simpa using this
      simp [hi] at hz hx
      subst hz hx
      exact (hZ i hi).2

theorem int_word {a : Int} (h : (Lit.int .i64 a).wf = true) : I64 a := by simpa [I64, Lit.wf, IntKind.min, IntKind.max, IntKind.signed, IntKind.bits] using h
theorem cell_int {cs : List Value} {n : Nat} {x : DataW H × List MemPlace} (h : DataW.trod enc Tryd.prog W 0 (fun _ => true) true n 3 cs = some x) : ∃ z, cs = encI z ∧ I64 z := by
  obtain ⟨z, h1, _, h3⟩ := DataW.trod_int Tryd.underlying3 h
  exact ⟨z, h1, int_word h3⟩
theorem one_int : Tryd.prog.cellsOf 3 = 1 := by kernel_rfl
theorem one_u8 : Tryd.prog.cellsOf 5 = 1 := by kernel_rfl
theorem each_all {ts : List TypeId} {ds : List (DataW H)} {j : Nat} {t : TypeId} {d : DataW H} (h : (DataW.weightsEach Tryd.prog ts ds).all (· ≤ reachBytes) = true) (h1 : ts[j]? = some t) (h2 : ds[j]? = some d) : (d.weights Tryd.prog t).all (· ≤ reachBytes) = true :=
  List.all_eq_true.2 fun n hn => List.all_eq_true.1 h n (DataW.weights_mem_each h1 h2 n hn)
theorem all_all {e : TypeId} : ∀ {ds : List (DataW H)}, (DataW.weightsAll Tryd.prog e ds).all (· ≤ reachBytes) = true → ∀ d ∈ ds, (d.weights Tryd.prog e).all (· ≤ reachBytes) = true
  | [], _, d, hd => by simp at hd
  | x :: r, h, d, hd => by
    rw [DataW.weightsAll, List.all_append, Bool.and_eq_true] at h
    rcases List.mem_cons.1 hd with rfl | hd
    · exact h.1
    · exact all_all h.2 d hd
end
end Go.Proofs.YtjbglgmbnjdhcaaDoor

namespace Go.Proofs.YtjbglgmbnjdhcaaDoor
open Go.ChangeShapes Go.WideShapes Go.ChangeAt Go.RowKit

/-- There is room for one thing more in the lists that are lent. -/
structure Circ.Reach (C : Circ) : Prop where
  i : C.inputs.length * 8 ≤ 140737488351232
  o : C.outputs.length * 8 ≤ 140737488351232
  b : C.bads.length * 8 ≤ 140737488351232
  c : C.constraints.length * 8 ≤ 140737488351232
  f : C.fairness.length * 8 ≤ 140737488351232
  l : C.latches.length * 24 ≤ 140737488351232
  a : C.ands.length * 24 ≤ 140737488351232
  t : ∀ s ∈ C.comments, s.size ≤ maxLen
section
variable {H : Type} {enc : TypeId × Value → H} {W : World}
theorem list_allR {E : Type} {Q : E → DataW H → Prop} {t e : TypeId} {d : DataW H} {zs : List E} {b : Nat} (ht : Tryd.prog.underlying t = some (.slice e)) (hb : Tryd.prog.bytesOf e = b) (hd : ReadsAs Q d zs) (h : (d.weights Tryd.prog t).all (· ≤ reachBytes) = true) :
    zs.length * b ≤ 140737488351232 ∧ ∀ (i : Nat) (z : E), zs[i]? = some z → ∃ x, Q z x ∧ (x.weights Tryd.prog e).all (· ≤ reachBytes) = true := by
  rcases hd with ⟨_, rfl⟩ | ⟨es, sp, rfl, hl, hq⟩
  · simp
  · rw [DataW.weights, ht] at h
    simp only [List.all_cons, List.all_append, Bool.and_eq_true, decide_eq_true_eq, hb] at h
    refine ⟨?_, fun i z hz => ?_⟩
    · rw [← hl]
      have := Nat.le_trans (Nat.mul_le_mul_right b (Nat.le_add_right es.length sp.length)) h.1
      simp only [reachBytes] at this
      omega
    · have hi : i < es.length := by rw [hl]; exact (List.getElem?_eq_some_iff.1 hz).1
      have hx := List.getElem?_eq_getElem hi
      exact ⟨_, hq i z _ hz hx, all_all h.2.1 _ (List.mem_of_getElem? hx)⟩

end
end Go.Proofs.YtjbglgmbnjdhcaaDoor

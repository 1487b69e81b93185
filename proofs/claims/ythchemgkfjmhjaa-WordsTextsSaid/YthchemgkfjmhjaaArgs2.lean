/- A statement's arguments, as its row reads them: rows of numbers, of words, of truths, with their length in bytes. -/
import Derived.Test.YthchemgkfjmhjaaRow
import Derived.Test.YthchemgkfjmhjaaLift
import Derived.Deep.Grids
import Derived.ChangeMaps5
namespace Go.Proofs.Ythchemgkfjmhjaa
open Go.ChangeShapes Go.WideShapes Go.ChangeAt Go.RowKit

/-- How an argument that is a list of n things reads. -/
def LongData {H : Type} (d : DataW H) (n : Nat) : Prop := (d = .nil ∧ n = 0) ∨ ∃ es sp, d = .slice es sp ∧ es.length = n

theorem cells_row {W : World} {A : Addr} {len cap : Nat} {xs : List Value} {ps : List MemPlace} (hl : xs.length = len) (hlc : len ≤ cap) (hm : cap ≤ maxLen) (n : Nat) (hn : len ≤ n)
    (hcell : ∀ i, i < len → W.cell? (A.add i) = xs[i]?) (hps : ps = MemPlace.row A n) (hlt : ∀ x ∈ ps, x.block < W.heap.size) : Row W (.slice (some A) len cap) xs := by
  subst hl
  refine ⟨_, cap, rfl, hlc, hm, fun i hi => ?_⟩
  obtain ⟨b, off, spot⟩ := A
  have h0 := hcell 0 (by omega)
  rw [List.getElem?_eq_getElem (by omega)] at h0
  have hspot : spot = none := by simpa [Addr.add] using World.cell?_spot h0
  subst hspot
  have hbW : b < W.heap.size := hlt (.cell b off) (by rw [hps]; exact MemPlace.mem_row.2 ⟨0, by omega, by simp⟩)
  refine ⟨b, off, rfl, hbW, ?_⟩
  have := hcell i hi
  rwa [Go.WideShapes.add_plain] at this

theorem row_none (W : World) (A : Option Addr) (c : Nat) (hc : c ≤ maxLen) : Row W (.slice A 0 c) [] := ⟨A, c, rfl, by simp, hc, fun i hi => by simp at hi⟩

theorem arg_nums {H : Type} {enc : TypeId × Value → H} {W : World} {base : Nat} {t e : TypeId} {k : IntKind} {v : Value} {d : DataW H} {ps : List MemPlace} (ht : Try.prog.underlying t = some (.slice e)) (hu : Try.prog.underlying e = some (.int k)) (hc : Try.prog.cellsOf e = 1)
    (hval : Value.okWide Try.prog W .any base t v) (h : DataW.Trod enc Try.prog W 0 (fun _ => true) true t v d ps) (hlt : ∀ x ∈ ps, x.block < W.heap.size) :
    ∃ zs : List Int, Row W v (zs.map (Value.int k)) ∧ LongData d zs.length ∧ ∀ n ∈ zs, (Lit.int k n).wf = true := by
  obtain ⟨a0, len, cap, rfl⟩ := okWide_slice ht hval
  obtain ⟨fuel, hf⟩ := h
  rcases open_ints ht hu hc hf with ⟨hcs, hx⟩ | ⟨a, len', cap', zs, hcs, _, hl, hm, hz, hx, hcell, hwz⟩
  · simp [Value.cells] at hcs
    obtain ⟨rfl, rfl, rfl⟩ := hcs
    simp only [Prod.mk.injEq] at hx
    obtain ⟨rfl, rfl⟩ := hx
    exact ⟨[], row_none _ _ _ (by simp [maxLen]), .inl ⟨rfl, rfl⟩, by simp⟩
  · simp [Value.cells] at hcs
    obtain ⟨rfl, rfl, rfl⟩ := hcs
    simp only [Prod.mk.injEq] at hx
    obtain ⟨rfl, rfl⟩ := hx
    simp only [if_true] at hz
    have hll : (zs.take len).length = len := by rw [List.length_take]; omega
    refine ⟨zs.take len, ?_, .inr ⟨_, _, rfl, by simp [lits]⟩, fun n hn => hwz n (List.mem_of_mem_take hn)⟩
    refine cells_row (by simpa using hll) hl hm zs.length (by omega) (fun i hi => ?_) rfl hlt
    rw [hcell i (by omega)]
    simp [List.getD, hi, show i < zs.length by omega]

theorem arg_words {H : Type} {enc : TypeId × Value → H} {W : World} {base : Nat} {t : TypeId} {v : Value} {d : DataW H} {ps : List MemPlace} (ht : Try.prog.underlying t = some (.slice 32))
    (hval : Value.okWide Try.prog W .any base t v) (h : DataW.Trod enc Try.prog W 0 (fun _ => true) true t v d ps) (hlt : ∀ x ∈ ps, x.block < W.heap.size) :
    ∃ ws : List Nat, Row W v (wds ws) ∧ LongData d ws.length ∧ ∀ n ∈ ws, n < 2 ^ 64 := by
  obtain ⟨zs, h1, h2, h3⟩ := arg_nums ht Try.underlying32 (by kernel_rfl) hval h hlt
  have hz : ∀ n ∈ zs, 0 ≤ n ∧ n < 18446744073709551616 := fun n hn => by
    have := h3 n hn
    simp [Lit.wf, IntKind.min, IntKind.max, IntKind.signed, IntKind.bits] at this
    omega
  refine ⟨zs.map Int.toNat, ?_, by simpa using h2, ?_⟩
  · have : wds (zs.map Int.toNat) = zs.map (Value.int .u64) := by
      simp only [wds, List.map_map]
      refine List.map_congr_left fun n hn => ?_
      have := (hz n hn).1
      simp only [Function.comp]
      congr 1
      omega
    rw [this]; exact h1
  · intro n hn
    obtain ⟨m, hm, rfl⟩ := List.mem_map.1 hn
    have := hz m hm
    omega

theorem arg_row {H : Type} {enc : TypeId × Value → H} {W : World} {base : Nat} {t : TypeId} {v : Value} {d : DataW H} {ps : List MemPlace} (ht : Try.prog.underlying t = some (.slice 4))
    (hval : Value.okWide Try.prog W .any base t v) (h : DataW.Trod enc Try.prog W 0 (fun _ => true) true t v d ps) (hlt : ∀ x ∈ ps, x.block < W.heap.size) :
    ∃ bs, Row W v (bls bs) ∧ LongData d bs.length := by
  obtain ⟨a0, len, cap, rfl⟩ := okWide_slice ht hval
  obtain ⟨fuel, hf⟩ := h
  rcases Go.Deep.open_bools ht Try.underlying4 (by kernel_rfl) hf with ⟨hcs, hx⟩ | ⟨a, len', cap', B, hcs, _, hl, hm, hx, hcell⟩
  · simp [Value.cells] at hcs
    obtain ⟨rfl, rfl, rfl⟩ := hcs
    simp only [Prod.mk.injEq] at hx
    obtain ⟨rfl, rfl⟩ := hx
    exact ⟨[], row_none _ _ _ (by simp [maxLen]), .inl ⟨rfl, rfl⟩⟩
  · simp [Value.cells] at hcs
    obtain ⟨rfl, rfl, rfl⟩ := hcs
    simp only [Prod.mk.injEq] at hx
    obtain ⟨rfl, rfl⟩ := hx
    have hll : ((List.range len).map B).length = len := by simp
    refine ⟨(List.range len).map B, ?_, .inr ⟨_, _, rfl, by simp⟩⟩
    refine cells_row (by simp) hl hm cap hl (fun i hi => ?_) rfl hlt
    rw [hcell i (by omega)]
    simp [hi]

theorem long_reach {H : Type} {d : DataW H} {n b : Nat} {ts : List TypeId} {ds : List (DataW H)} {j : Nat} {t e : TypeId} (hd : LongData d n) (hsz : (DataW.weightsEach Try.prog ts ds).all (· ≤ reachBytes) = true)
    (ht : Try.prog.underlying t = some (.slice e)) (hb : Try.prog.bytesOf e = b) (h1 : ts[j]? = some t) (h2 : ds[j]? = some d) : n * b ≤ 140737488351232 := by
  rcases hd with ⟨_, rfl⟩ | ⟨es, sp, rfl, he⟩
  · simp
  · have := sized_slice hsz h1 h2 ht
    rw [hb, he] at this
    simp only [reachBytes] at this
    exact Nat.le_trans (Nat.mul_le_mul_right b (Nat.le_add_right n sp.length)) this
end Go.Proofs.Ythchemgkfjmhjaa

/- Renumber as plain data, and what memory holds while its lists are written. -/
import Derived.Test.YtdladffjenfikaaRight
import Derived.Test.YtdladffjenfikaaNewm
import Derived.Test.YtdladffjenfikaaCopy
namespace Go.Proofs.Ytdladffjenfikaa
open Go.RowKit

theorem or_low {x b : Nat} (hx : x % 2 = 0) (hb : b < 2) : x ||| b = x + b := by
  have e : x = 2 ^ 1 * (x / 2) := by omega
  rw [e]
  exact (Nat.two_pow_add_eq_or_of_lt (i := 1) hb _).symm
theorem or_lit {x b : Int} (h0 : 0 ≤ x) (h1 : x % 2 = 0) (h2 : x ≤ 1000000) (hb0 : 0 ≤ b) (hb1 : b < 2) : bits .or .i64 x b = x + b := by
  obtain ⟨n, rfl⟩ : ∃ n : Nat, x = (n : Int) := ⟨x.toNat, by omega⟩
  obtain ⟨k, rfl⟩ : ∃ k : Nat, b = (k : Int) := ⟨b.toNat, by omega⟩
  have e := or_low (x := n) (b := k) (by omega) (by omega)
  have hn : n < 2 ^ 64 := by omega
  have hk : k < 2 ^ 64 := by omega
  show IntKind.i64.wrap ((BitVec.ofInt 64 (n : Int) ||| BitVec.ofInt 64 (k : Int)).toNat : Int) = _
  rw [BitVec.toNat_or, BitVec.ofInt_natCast, BitVec.ofInt_natCast, BitVec.toNat_ofNat, BitVec.toNat_ofNat, Nat.mod_eq_of_lt hn, Nat.mod_eq_of_lt hk, e]
  simp [IntKind.wrap, IntKind.bits, IntKind.signed]
  omega
set_option maxHeartbeats 400000 in
set_option maxRecDepth 100000 in
theorem move_any (w : World) (bm gm : Nat) (M : List Int) (l : Int) (hbm : Blk w bm 22 #[.slice (some ⟨gm, 0, none⟩) M.length M.length]) (hg : Nums w gm M) (h0 : 0 ≤ l) (hl : l / 2 < (M.length : Int)) (hM : M.length ≤ 100000) (he : ∀ x ∈ M, 0 ≤ x ∧ x % 2 = 0 ∧ x ≤ 1000000) :
    Calls Try.prog 57 #[.int .i64 l, .pointer (some ⟨bm, 0, none⟩)] w fun e w' => e = .returned (.int .i64 (M.getD (l / 2).toNat 0 + l % 2)) ∧ w' = w := by
  have c0 := hbm.cell 0
  simp only [List.getElem?_toArray, List.getElem?_cons_zero] at c0
  have hk : (l / 2).toNat < M.length := by omega
  have hx := getD_some hk (d := 0)
  have c1 := hg.cell hx
  obtain ⟨x, hxe⟩ : ∃ x, M.getD (l / 2).toNat 0 = x := ⟨_, rfl⟩
  obtain ⟨x0, x1, x2⟩ := he _ (List.mem_of_getElem? hx)
  rw [hxe] at c1 x0 x1 x2
  rw [hxe]
  have hq := tdiv_nn (b := 2) h0
  have hq0 : 0 ≤ l / 2 := by omega
  clear hbm hg hx hk hxe he
  go_enter Try.func57, Try.ntmps57
  go_wp2
  go_ret
  refine ⟨ret_int ?_, rfl⟩
  exact or_lit x0 x1 x2 (by omega) (by omega)
end Go.Proofs.Ytdladffjenfikaa

namespace Go.Proofs.Ytdladffjenfikaa
open Go.RowKit

/-- A literal by the map. -/
def mvF (M : List Int) (l : Int) : Int := M.getD (l / 2).toNat 0 + l % 2
def renAnd (M : List Int) (z : Tri) : Tri := (mvF M z.1, max (mvF M z.2.1) (mvF M z.2.2), min (mvF M z.2.1) (mvF M z.2.2))
def renC (C : Circ) (out : List Int) : Circ :=
  { max := (C.inputs.length : Int) + C.latches.length + C.ands.length, inputs := C.inputs.map (mvF (newM C out)), latches := C.latches.map (fun z => (mvF (newM C out) z.1, mvF (newM C out) z.2.1, mvF (newM C out) z.2.2)),
    outputs := C.outputs.map (mvF (newM C out)), bads := C.bads.map (mvF (newM C out)), constraints := C.constraints.map (mvF (newM C out)), justice := C.justice.map (fun zs => zs.map (mvF (newM C out))), fairness := C.fairness.map (mvF (newM C out)),
    ands := out.map (fun g => renAnd (newM C out) (C.ands.getD g.toNat (0, 0, 0))), symbols := C.symbols, comments := C.comments }
theorem numF_even : ∀ (ls : List Int) (st : Int × List Int), 0 ≤ st.1 → st.1 % 2 = 0 → (∀ x ∈ st.2, 0 ≤ x ∧ x % 2 = 0 ∧ x ≤ st.1) → ∀ x ∈ (numF ls st).2, 0 ≤ x ∧ x % 2 = 0 ∧ x ≤ (numF ls st).1
  | [], st, _, _, h => h
  | l :: r, st, h0, h1, h => by
    refine numF_even r (st.1 + 2, st.2.set (l / 2).toNat (st.1 + 2)) (by simp only; omega) (by simp only; omega) (fun x hx => ?_)
    rcases List.mem_or_eq_of_mem_set hx with hx | rfl
    · obtain ⟨a, b, c⟩ := h x hx
      exact ⟨a, b, by simp only; omega⟩
    · exact ⟨by omega, by omega, Int.le_refl _⟩
theorem newM_even (C : Circ) (out : List Int) : ∀ x ∈ newM C out, 0 ≤ x ∧ x % 2 = 0 ∧ x ≤ 2 * ((C.inputs.length : Int) + C.latches.length + out.length) := by
  intro x hx
  unfold newM at hx
  have h1 := numF_even _ (0, List.replicate (C.max.toNat + 1) 0) (Int.le_refl 0) rfl (fun y hy => by rw [(List.mem_replicate.1 hy).2]; exact ⟨Int.le_refl _, rfl, Int.le_refl _⟩) x hx
  have h2 := (numF_len (C.inputs ++ C.latches.map (·.1) ++ out.map (fun g => (C.ands.getD g.toNat (0, 0, 0)).1)) (0, List.replicate (C.max.toNat + 1) 0)).2
  rw [h2] at h1
  obtain ⟨a, b, c⟩ := h1
  refine ⟨a, b, ?_⟩
  simp at c
  omega
theorem newM_len (C : Circ) (out : List Int) : (newM C out).length = C.max.toNat + 1 := by
  unfold newM
  rw [(numF_len _ _).1]
  simp
theorem fam_comm {w : World} {B : Nat} {R S : List (Value × List Int)} (h : Fam w B (R ++ S)) : Fam w B (S ++ R) := by
  refine ⟨fun p hp => h.own p (by simp only [List.mem_append] at hp ⊢; exact hp.symm), fun i j a b hij hi hj => ?_⟩
  have key : ∀ (i : Nat) (a : Value × List Int), (S ++ R)[i]? = some a → (R ++ S)[if i < S.length then i + R.length else i - S.length]? = some a ∧ i < S.length + R.length := by
    intro i a hi
    have hl := (List.getElem?_eq_some_iff.1 hi).1
    rw [List.length_append] at hl
    refine ⟨?_, hl⟩
    by_cases e : i < S.length
    · rw [if_pos e, List.getElem?_append_right (by omega), Nat.add_sub_cancel]
      rwa [List.getElem?_append_left e] at hi
    · rw [if_neg e, List.getElem?_append_left (by omega)]
      rwa [List.getElem?_append_right (by omega)] at hi
  obtain ⟨h1, h2⟩ := key i a hi
  obtain ⟨h3, h4⟩ := key j b hj
  refine h.apart _ _ a b ?_ h1 h3
  split <;> split <;> omega
end Go.Proofs.Ytdladffjenfikaa

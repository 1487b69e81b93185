/- What a renumbered circuit, as it lies in memory, gives to those that read it. -/
import Derived.Test.YtfcjdfjobneeeaaBin
import Derived.Test.YtfcjdfjobneeeaaRenN
import Derived.Test.YtfcjdfjobneeeaaWorks3
namespace Go.Proofs.Ytfcjdfjobneeeaa
open Go.RowKit

theorem Cop.in_ {w : World} {B : Nat} {V : CV} {us : List Value} {C : Circ} (h : Cop w B V us C) : C.In w V := by
  have five_ : ∀ {v : Value} {L : List Int}, (v, L) ∈ five V C ++ us.zip C.justice → RowE 1 encI w v L := fun hm => own_rowe lenI (by rw [flat_ints]; exact h.fam.own _ hm)
  refine ⟨five_ (by simp), own_rowe lenT h.l, five_ (by simp), five_ (by simp), five_ (by simp), ⟨us, own_rowe lenV (by rw [flat_vals]; exact h.j), h.ul, fun i u zs hu hz => five_ (List.mem_append_right _ (List.mem_iff_getElem?.2 ⟨i, by rw [List.getElem?_zip_eq_some]; exact ⟨hu, hz⟩⟩))⟩, five_ (by simp), own_rowe lenT h.a, own_rowe lenS h.s, own_rowe lenB h.t⟩
theorem LitOk.i64 {C : Circ} {l : Int} (hm : C.max ≤ 16384) (h : LitOk C l) : I64 l := by
  obtain ⟨a, b⟩ := h
  exact ⟨by omega, by omega⟩
theorem Right.ok {C : Circ} (h : Right C) (hs : ∀ z ∈ C.symbols, 0 ≤ z.kind ∧ z.kind ≤ 255 ∧ I64 z.at_) (hn : ∀ z ∈ C.symbols, z.name.size ≤ maxLen) : C.Ok := by
  have hm := h.m1
  have big : ∀ {l : Int}, 2 ≤ l ∧ l / 2 ≤ C.max → I64 l := fun hl => ⟨by omega, by omega⟩
  refine ⟨⟨by have := h.m0; omega, by omega⟩, fun l hl => big (h.i l hl), fun z hz => ?_, fun l hl => (h.o l hl).i64 hm, fun l hl => (h.b l hl).i64 hm, fun l hl => (h.c l hl).i64 hm, fun zs hz l hl => (h.j zs hz l hl).i64 hm, fun l hl => (h.f l hl).i64 hm, fun z hz => ?_, hs, hn⟩
  · obtain ⟨a, b, c⟩ := h.l z hz
    refine ⟨big a, b.i64 hm, ?_⟩
    rcases c with c | c | c
    · rw [c]; exact ⟨by omega, by omega⟩
    · rw [c]; exact ⟨by omega, by omega⟩
    · rw [c]; exact big a
  · obtain ⟨a, b, c⟩ := h.a z hz
    exact ⟨big a, b.i64 hm, c.i64 hm⟩
theorem ren_room {C : Circ} {out : List Int} (h : C.Room) (hl : out.length = C.ands.length) : (renC C out).Room := by
  refine ⟨by simpa [renC] using h.i, by simpa [renC] using h.l, by simpa [renC] using h.o, by simpa [renC] using h.b, by simpa [renC] using h.c, by simpa [renC] using h.j, fun zs hz => ?_, by simpa [renC] using h.f, by simpa [renC, hl] using h.a, h.s, h.t⟩
  obtain ⟨ys, hy, rfl⟩ := List.mem_map.1 (show zs ∈ C.justice.map _ from hz)
  have := h.js ys hy
  simpa using this
/-- All that is wanted of a circuit that has been renumbered. -/
structure Settled (C : Circ) (M : List Int) (X : Circ) : Prop where
  check : (checkR X).2 = 0
  ok : X.Ok
  room : X.Room
  bin : binB X = true
  twice : ∀ out2, Greedy (usesC X) out2 → out2.length = X.ands.length → renC X out2 = X
  max : X.max = (C.inputs.length : Int) + C.latches.length + C.ands.length
  maxle : X.max ≤ 16384
  mlen : M.length = C.max.toNat + 1
  rng : ∀ (v : Nat) (x : Int), M[v]? = some x → 0 ≤ x ∧ x ≤ 2 * X.max ∧ x % 2 = 0 ∧ (v = 0 → x = 0)
  inj : ∀ (v u : Nat) (x : Int), M[v]? = some x → M[u]? = some x → 0 < x → v = u
  count : (M.countP (fun x => decide (0 < x)) : Int) = X.max
  bads : X.bads = C.bads.map (mvF M)
  cons : X.constraints = C.constraints.map (mvF M)
  lats : X.latches = C.latches.map (mvL M)
  even : ∀ z ∈ C.latches, z.1 % 2 = 0
theorem settled_of {C : Circ} (h : (checkR C).2 = 0) (ok : C.Ok) (rm : C.Room) {out : List Int} (hG : Greedy (usesC C) out) (hl : out.length = C.ands.length) : Settled C (newM C out) (renC C out) := by
  have hf := fine_of h
  have hp := greedy_perm hG (by rw [hl, usesC_len])
  rw [usesC_len] at hp
  have hN := newL_of hf hp
  obtain ⟨h1, h2, h3, h4, h5, h6⟩ := check_parts h
  have hck := ren_check hf h1 h5 h6 hN hG hl
  have hfX := ren_fine hf hN (fun g hg => by have := hG.inR g hg; rwa [usesC_len] at this)
  exact ⟨hck, (right_of hck).ok ok.s ok.sn, ren_room rm hl, ren_bin hf hN hG hl, fun out2 hG2 hl2 => ren_twice hf hN hG hl hG2 hl2, rfl, hfX.m1, newM_len C out, fun v x hx => map_rng hf hN hx, fun v u x hx hy h0 => map_inj hf hN hx hy h0, map_count hf hN, rfl, rfl, rfl, fun z hz => (hf.d.two z.1 (List.mem_append_left _ (List.mem_append_right _ (List.mem_map.2 ⟨z, hz, rfl⟩)))).2.1⟩
/-- The values that have been met, as a table. -/
def seenF (n : Nat) (xs : List Int) : List Bool := xs.foldl (fun t x => if 0 < x then t.set (x / 2).toNat true else t) (List.replicate n false)
theorem seenF_snoc (n : Nat) (xs : List Int) (x : Int) : seenF n (xs ++ [x]) = if 0 < x then (seenF n xs).set (x / 2).toNat true else seenF n xs := by simp [seenF, List.foldl_append]
theorem seen_get : ∀ (xs : List Int) (t : List Bool), (∀ x ∈ xs, 0 ≤ x ∧ x / 2 < (t.length : Int)) → ∀ k, k < t.length → (xs.foldl (fun t x => if 0 < x then t.set (x / 2).toNat true else t) t)[k]? = some (t.getD k false || decide (∃ x ∈ xs, 0 < x ∧ x / 2 = (k : Int)))
  | [], t, _, k, hk => by simp [List.getD, hk]
  | x :: r, t, h, k, hk => by
    have hx := h x (by simp)
    rw [List.foldl_cons]
    by_cases h0 : 0 < x
    · rw [if_pos h0, seen_get r _ (fun y hy => by have := h y (by simp [hy]); simpa using this) k (by simpa using hk)]
      simp only [List.getD, List.getElem?_set, List.mem_cons, exists_eq_or_imp]
      by_cases e : (x / 2).toNat = k
      · have e2 : x / 2 = (k : Int) := by omega
        simp [e, hk, h0, e2]
      · have e2 : ¬ x / 2 = (k : Int) := by omega
        simp [e, e2]
    · rw [if_neg h0, seen_get r t (fun y hy => h y (by simp [hy])) k hk]
      simp [h0]
theorem seenF_get {n : Nat} {xs : List Int} (h : ∀ x ∈ xs, 0 ≤ x ∧ x / 2 < (n : Int)) {k : Nat} (hk : k < n) : (seenF n xs)[k]? = some (decide (∃ x ∈ xs, 0 < x ∧ x / 2 = (k : Int))) := by
  unfold seenF
  rw [seen_get xs _ (by simpa using h) k (by simpa using hk)]
  simp [List.getD, hk]
/-- A value that comes is new. -/
theorem Settled.fresh {C X : Circ} {M : List Int} (h : Settled C M X) (hm0 : 0 ≤ X.max) {q : Nat} {x : Int} (hx : M[q]? = some x) (h0 : 0 < x) : (seenF (X.max.toNat + 1) (M.take q))[(x / 2).toNat]? = some false := by
  have hr := h.rng q x hx
  have hall : ∀ y ∈ M.take q, 0 ≤ y ∧ y / 2 < ((X.max.toNat + 1 : Nat) : Int) := fun y hy => by
    obtain ⟨i, hi⟩ := List.getElem?_of_mem (List.mem_of_mem_take hy)
    have := h.rng i y hi
    exact ⟨this.1, by omega⟩
  rw [seenF_get hall (by omega)]
  congr 1
  rw [decide_eq_false_iff_not]
  rintro ⟨y, hy, hy0, e⟩
  obtain ⟨i, hi⟩ := List.getElem?_of_mem hy
  rw [List.getElem?_take] at hi
  split at hi
  · have h1 := h.rng i y hi
    have : y = x := by omega
    subst this
    have := h.inj i q y hi hx h0
    omega
  · cases hi
theorem xor_low {x b : Nat} (hx : x % 2 = 0) (hb : b < 2) : x ^^^ b = x + b := by
  have e : x ^^^ b = x ||| b := by
    apply Nat.eq_of_testBit_eq
    intro i
    rw [Nat.testBit_xor, Nat.testBit_or]
    cases i with
    | zero =>
      have : x.testBit 0 = false := by simp [Nat.testBit_zero]; omega
      rw [this]; simp
    | succ i =>
      have : b.testBit (i + 1) = false := by
        apply Nat.testBit_lt_two_pow
        have : 2 ≤ 2 ^ (i + 1) := by rw [Nat.pow_succ]; have := Nat.one_le_two_pow (n := i); omega
        omega
      rw [this]; simp
  rw [e, or_low hx hb]
theorem xor_lit {x b : Int} (h0 : 0 ≤ x) (h1 : x % 2 = 0) (h2 : x ≤ 1000000) (hb0 : 0 ≤ b) (hb1 : b < 2) : bits .xor .i64 x b = x + b := by
  obtain ⟨n, rfl⟩ : ∃ n : Nat, x = (n : Int) := ⟨x.toNat, by omega⟩
  obtain ⟨k, rfl⟩ : ∃ k : Nat, b = (k : Int) := ⟨b.toNat, by omega⟩
  have e := xor_low (x := n) (b := k) (by omega) (by omega)
  have hn : n < 2 ^ 64 := by omega
  have hk : k < 2 ^ 64 := by omega
  show IntKind.i64.wrap ((BitVec.ofInt 64 (n : Int) ^^^ BitVec.ofInt 64 (k : Int)).toNat : Int) = _
  rw [BitVec.toNat_xor, BitVec.ofInt_natCast, BitVec.ofInt_natCast, BitVec.toNat_ofNat, BitVec.toNat_ofNat, Nat.mod_eq_of_lt hn, Nat.mod_eq_of_lt hk, e]
  simp [IntKind.wrap, IntKind.bits, IntKind.signed]
  omega
end Go.Proofs.Ytfcjdfjobneeeaa

/- Ascii: the lines between header and end. -/
import Derived.Test.YtkkolefhfmlhfabDoorAscK
namespace Go.Proofs.YtkkolefhfmlhfabDoor
open Go.RowKit

theorem suf_drop {s r : Bs} {p : Nat} (h : ∃ t, s.drop p = t ++ r) : s.drop (s.length - r.length) = r := by
  obtain ⟨t, ht⟩ := h
  exact (List.suffix_iff_eq_drop.1 (List.IsSuffix.trans (⟨t, ht.symm⟩ : r <:+ s.drop p) (List.drop_suffix p s))).symm
theorem row_suf {r r1 : Bs} {least most : Nat} {ns : List Nat} (h : rowA least most r = .ok (ns, r1)) : ∃ t, r = t ++ r1 := by
  have h0 : rowA least most (r.drop 0) = .ok (ns, r1) := h
  obtain ⟨hd, _⟩ := rowA_ok (s := r) (p := 0) h0
  exact ⟨r.take (r.length - r1.length), by
    conv => rhs; rhs; rw [← hd]
    exact (List.take_append_drop _ _).symm⟩
theorem suf_trans {r r1 r2 : Bs} (h : ∃ t, r = t ++ r1) (h2 : ∃ t, r1 = t ++ r2) : ∃ t, r = t ++ r2 := by
  obtain ⟨t, rfl⟩ := h
  obtain ⟨t2, rfl⟩ := h2
  exact ⟨t ++ t2, by simp⟩
theorem latchA_ok : ∀ {n : Nat} {r r' : Bs} {zs : List (Nat × Nat × Nat)}, latchA n r = .ok (zs, r') → zs.length = n ∧ ∃ t, r = t ++ r'
  | 0, r, r', zs, h => by
    unfold latchA at h
    injection h with h
    injection h with h1 h2
    subst h1 h2
    exact ⟨rfl, [], rfl⟩
  | n + 1, r, r', zs, h => by
    cases hr : rowA 2 3 r with
    | error k => rw [latch_err hr] at h; cases h
    | ok y =>
      obtain ⟨xs, r1⟩ := y
      rw [latch_ok hr] at h
      cases hq : latchA n r1 with
      | error k => rw [hq] at h; cases h
      | ok y =>
        obtain ⟨ys, r2⟩ := y
        rw [hq] at h
        have h4 : (Except.ok ([(xs.getD 0 0, xs.getD 1 0, xs.getD 2 0)] ++ ys, r2) : Rs (List (Nat × Nat × Nat))) = .ok (zs, r') := h
        injection h4 with h3
        injection h3 with h4 h5
        subst h4 h5
        obtain ⟨e1, e2⟩ := latchA_ok hq
        exact ⟨by simp [e1], suf_trans (row_suf hr) e2⟩
theorem gate_okn {m : Nat} {ns : List Nat} {r r' : Bs} (h : rowA 3 3 r = .ok (ns, r')) : gateA (m + 1) r = glueA [(ns.getD 0 0, ns.getD 1 0, ns.getD 2 0)] (gateA m r') := by
  have e : gateA (m + 1) r = match gateA m r' with
      | .error k => .error k
      | .ok (xs, r'') => .ok ((ns.getD 0 0, ns.getD 1 0, ns.getD 2 0) :: xs, r'') := by
    conv => lhs; unfold gateA
    rw [h]
    rfl
  rw [e]
  cases gateA m r' with
  | error k => rfl
  | ok y => rfl
theorem gateA_ok : ∀ {n : Nat} {r r' : Bs} {zs : List (Nat × Nat × Nat)}, gateA n r = .ok (zs, r') → zs.length = n ∧ ∃ t, r = t ++ r'
  | 0, r, r', zs, h => by
    unfold gateA at h
    injection h with h
    injection h with h1 h2
    subst h1 h2
    exact ⟨rfl, [], rfl⟩
  | n + 1, r, r', zs, h => by
    cases hr : rowA 3 3 r with
    | error k => rw [gate_err hr] at h; cases h
    | ok y =>
      obtain ⟨xs, r1⟩ := y
      rw [gate_okn hr] at h
      cases hq : gateA n r1 with
      | error k => rw [hq] at h; cases h
      | ok y =>
        obtain ⟨ys, r2⟩ := y
        rw [hq] at h
        have h4 : (Except.ok ([(xs.getD 0 0, xs.getD 1 0, xs.getD 2 0)] ++ ys, r2) : Rs (List (Nat × Nat × Nat))) = .ok (zs, r') := h
        injection h4 with h3
        injection h3 with h4 h5
        subst h4 h5
        obtain ⟨e1, e2⟩ := gateA_ok hq
        exact ⟨by simp [e1], suf_trans (row_suf hr) e2⟩
theorem listsA_ok : ∀ {ns : List Nat} {r r' : Bs} {xss : List (List Nat)}, listsA ns r = .ok (xss, r') → xss.length = ns.length ∧ ∃ t, r = t ++ r'
  | [], r, r', xss, h => by
    unfold listsA at h
    injection h with h
    injection h with h1 h2
    subst h1 h2
    exact ⟨rfl, [], rfl⟩
  | n :: ns, r, r', xss, h => by
    cases hr : listA 2147483647 n r with
    | error k => rw [lists_err hr] at h; cases h
    | ok y =>
      obtain ⟨xs, r1⟩ := y
      rw [lists_ok hr] at h
      cases hq : listsA ns r1 with
      | error k => rw [hq] at h; cases h
      | ok y =>
        obtain ⟨ys, r2⟩ := y
        rw [hq] at h
        have h4 : (Except.ok ([xs] ++ ys, r2) : Rs (List (List Nat))) = .ok (xss, r') := h
        injection h4 with h3
        injection h3 with h4 h5
        subst h4 h5
        obtain ⟨e1, e2⟩ := listsA_ok hq
        exact ⟨by simp [e1], suf_trans (listA_ok hr).2.2 e2⟩
theorem justA_ok {n : Nat} {r r' : Bs} {xss : List (List Nat)} (h : justA n r = .ok (xss, r')) : xss.length = n ∧ ∃ t, r = t ++ r' := by
  unfold justA at h
  cases hr : listA 16384 n r with
  | error k => rw [hr] at h; cases h
  | ok y =>
    obtain ⟨xs, r1⟩ := y
    rw [hr] at h
    simp only at h
    obtain ⟨e1, e2⟩ := listsA_ok h
    exact ⟨by rw [e1, (listA_ok hr).1], suf_trans (listA_ok hr).2.2 e2⟩
/-- But for three blocks nothing has turned. -/
structure B3 (b bo ro : Nat) (w w' : World) : Prop where
  os : w'.os = w.os
  tape : w'.tape = w.tape
  output : w'.output = w.output
  size : w.heap.size ≤ w'.heap.size
  block : ∀ k, k < w.heap.size → k ≠ b → k ≠ bo → k ≠ ro → w'.heap[k]? = w.heap[k]?
section
variable {b bo ro g : Nat} {w w1 w2 : World}
theorem B3.trans (h : B3 b bo ro w w1) (h2 : B3 b bo ro w1 w2) : B3 b bo ro w w2 :=
  ⟨h2.os.trans h.os, h2.tape.trans h.tape, h2.output.trans h.output, Nat.le_trans h.size h2.size, fun k hk q1 q2 q3 => (h2.block k (Nat.lt_of_lt_of_le hk h.size) q1 q2 q3).trans (h.block k hk q1 q2 q3)⟩
theorem B3.of_grown (h : w.grownBy w1 (some b)) : B3 b bo ro w w1 :=
  ⟨h.os, h.tape, h.output, h.size, fun k hk hb _ _ => h.block k hk (fun e => by injection e with e; exact hb e)⟩
theorem B3.of_set (i : Nat) (v : Value) : B3 b bo ro w (w.setCell ⟨bo, i, none⟩ v) :=
  ⟨rfl, rfl, rfl, by simp, fun k _ _ ho _ => Below.heap_setCell _ _ _ _ (by simpa using ho)⟩
theorem B3.of_row (cs : Array Value) : B3 b bo ro w (w.setRow ro cs) :=
  ⟨rfl, rfl, rfl, by rw [size_setRow]; exact Nat.le_refl _, fun k _ _ _ ho => setRow_other _ _ _ _ ho⟩
theorem B3.of_below (h : Below w.heap.size w w1) : B3 b bo ro w w1 := ⟨h.os, h.tape, h.output, h.size, fun k hk _ _ _ => h.block k hk⟩
theorem B3.blk {t : TypeId} {cs : Array Value} (h : B3 b bo ro w w1) (hb : Blk w g t cs) (h1 : g ≠ b) (h2 : g ≠ bo) (h3 : g ≠ ro) : Blk w1 g t cs := (h.block g (Blk.lt hb) h1 h2 h3).trans hb
theorem B3.inn {gs : List Nat} {xss : List (List Nat)} (h : B3 b bo ro w w1) (hi : InnJ w g gs xss) (h1 : b < g) (h2 : bo < g) (h3 : ro < g) : InnJ w1 g gs xss :=
  ⟨hi.len, hi.up, fun g' hg' => ⟨(hi.lt g' hg').1, Nat.lt_of_lt_of_le (hi.lt g' hg').2 h.size⟩, fun i g' xs q1 q2 => by
    have hm := hi.lt g' (List.mem_of_getElem? q1)
    exact h.blk (hi.nums i g' xs q1 q2) (by omega) (by omega) (by omega)⟩
theorem B3.below {B : Nat} (h : B3 b bo ro w w1) (h1 : B ≤ b) (h2 : B ≤ bo) (h3 : B ≤ ro) (h4 : B ≤ w.heap.size) : Below B w w1 :=
  ⟨h.os, h.tape, h.output, h.size, fun k hk => h.block k (by omega) (by omega) (by omega) (by omega)⟩
theorem B3.grown (h : B3 b bo ro w w1) (h2 : w.heap.size ≤ bo) (h3 : w.heap.size ≤ ro) : w.grownBy w1 (some b) :=
  ⟨h.os, h.tape, h.output, h.size, fun k hk hne => h.block k hk (fun e => hne (by rw [e])) (by omega) (by omega)⟩
theorem B3.weak (h : B3 b bo bo w w1) : B3 b bo ro w w1 := ⟨h.os, h.tape, h.output, h.size, fun k hk q1 q2 _ => h.block k hk q1 q2 q2⟩
end
/-- A circuit read, in memory: each list in a block of its own, at B or above. -/
structure CircM (B : Nat) (w : World) (V : CV) (i : List Nat) (l : List (Nat × Nat × Nat)) (o b c : List Nat) (j : List (List Nat)) (f : List Nat) (a : List (Nat × Nat × Nat)) : Prop where
  i : ∃ g, V.i = .slice (some ⟨g, 0, none⟩) i.length i.length ∧ B ≤ g ∧ Nums w g (intsA i)
  l : ∃ g, V.l = .slice (some ⟨g, 0, none⟩) l.length l.length ∧ B ≤ g ∧ TrP 61 w g (l.map triA)
  o : ∃ g, V.o = .slice (some ⟨g, 0, none⟩) o.length o.length ∧ B ≤ g ∧ Nums w g (intsA o)
  b : ∃ g, V.b = .slice (some ⟨g, 0, none⟩) b.length b.length ∧ B ≤ g ∧ Nums w g (intsA b)
  c : ∃ g, V.c = .slice (some ⟨g, 0, none⟩) c.length c.length ∧ B ≤ g ∧ Nums w g (intsA c)
  j : ∃ g gs, V.j = .slice (some ⟨g, 0, none⟩) j.length j.length ∧ B ≤ g ∧ Blk w g 22 (cellsJ gs j).toArray ∧ InnJ w g gs j
  f : ∃ g, V.f = .slice (some ⟨g, 0, none⟩) f.length f.length ∧ B ≤ g ∧ Nums w g (intsA f)
  a : ∃ g, V.a = .slice (some ⟨g, 0, none⟩) a.length a.length ∧ B ≤ g ∧ TrP 84 w g (a.map triA)
  zs : V.s = .slice none 0 0
  zt : V.t = .slice none 0 0
/-- What circuit answers. -/
def BodyAns (w : World) (b : Nat) (s : Bs) (m : Nat) (q : Rs Circ) (e : Ending) (w' : World) : Prop := match q with
  | .error k => e = pan ((s.length - k : Nat) : Int) 42
  | .ok (C, r) => ∃ V lk i l o bb c j f a, e = .returned (V.val m) ∧ C = ⟨m, intsA i, l.map triA, intsA o, intsA bb, intsA c, j.map intsA, intsA f, a.map triA, [], []⟩ ∧ CircM w.heap.size w' V i l o bb c j f a ∧ Rd w' b s (s.length - r.length) lk
end Go.Proofs.YtkkolefhfmlhfabDoor

/- Tern: what the walks of the statements share: each call's answer as a row of the call's own, also where it is refused. -/
import Derived.Test.YtbeaicmjohlboaaDoorTrnW
import Derived.Test.YtbeaicmjohlboaaDoorTrnU
import Derived.Test.YtbeaicmjohlboaaDoorKeptC
import Derived.Test.YtbeaicmjohlboaaDoorArgT
namespace Go.Proofs.YtbeaicmjohlboaaDoor
open Go.RowKit

theorem slT_form {E : Type} {k : Nat} {enc : E → List Value} {w : World} {v : Value} {zs : List E} (h : RowE k enc w v zs) : ∃ A n c, v = .slice A n c := by
  obtain ⟨A, c, e, _⟩ := h
  exact ⟨A, _, c, e⟩
theorem slT_formL {w : World} {v : Value} {zss : List (List Int)} (h : Lists w v zss) : ∃ A n c, v = .slice A n c := by
  obtain ⟨A, c, e, _⟩ := h.at_
  exact ⟨A, _, c, e⟩
theorem lentT_form {w : World} {B : Nat} {v : Value} {zs : List Int} (h : Lent w B v zs) : ∃ A n c, v = .slice A n c := by
  obtain ⟨g, cap, e, _⟩ := h.mark
  exact ⟨_, _, cap, e⟩
theorem nums_ownT {w : World} {B g : Nat} {L : List Int} (h : Nums w g L) (hB : B ≤ g) (hm : L.length ≤ maxLen) : w.ownsRow B 3 1 (.slice (some ⟨g, 0, none⟩) L.length L.length) L.length (L.map (Value.int .i64)) :=
  ⟨by simp, .inr ⟨g, L.length, _, rfl, hB, h, Nat.le_refl _, hm, by simp, by rw [List.take_of_length_le (by simp)]⟩⟩
/-- Two values that lie apart. -/
def ApT (u v : Value) : Prop := ∀ g, u.ownBlock = some g → v.ownBlock ≠ some g
theorem ApT.symm {u v : Value} (h : ApT u v) : ApT v u := fun g a b => h g b a
theorem apT_of {w w' : World} {B n n' k k' : Nat} {t t' : TypeId} {u v : Value} {xs ys : List Value} (h : w.ownsRow B t k u n xs) (h2 : w'.ownsRow w.heap.size t' k' v n' ys) : ApT u v := fun g hu hv => by
  have h3 := (h.lt g hu).2
  have h4 := (h2.lt g hv).1
  omega
theorem own_spoilT {w w' : World} {B n k : Nat} {t : TypeId} {u v : Value} {xs : List Value} (h : w.ownsRow B t k v n xs) (ha : ApT u v) (hg : w.grownBy w' u.ownBlock) : w'.ownsRow B t k v n xs :=
  own_of_block h (fun g hv => hg.block g (h.lt g hv).2 (fun e => ha g e.symm hv))
theorem nil_ownI (w : World) (B : Nat) : w.ownsRow B 3 1 (.slice none 0 0) ([] : List Int).length (([] : List Int).map (Value.int .i64)) := ⟨rfl, .inl ⟨rfl, rfl⟩⟩
theorem own_rowI {w : World} {B : Nat} {v : Value} {L : List Int} (h : w.ownsRow B 3 1 v L.length (L.map (Value.int .i64))) : RowE 1 encI w v L := own_rowe lenI (by rw [flat_ints]; exact h)
def valI (C : Circ) (O L I : List Int) : List Int := if fit3 C L I = 0 then val3 C O L I else []
def nextI (C : Circ) (O L I : List Int) : List Int := if fit3 C L I = 0 then next3 C (val3 C O L I) else []
def liftI (C : Circ) (O L I lits : List Int) : List Int := if liftE C O L I lits = 0 then lift3 C O I lits L else []
theorem lift3_len (C : Circ) (O I lits L : List Int) : (lift3 C O I lits L).length = L.length := liftN_len C O I lits L L.length
theorem liftE_ok {C : Circ} {O L I lits : List Int} (h : liftE C O L I lits = 0) : fit3 C L I = 0 := by
  unfold liftE at h
  by_cases h0 : fit3 C L I = 0
  · exact h0
  · rw [if_neg h0] at h; exact absurd h h0
section
variable {w : World} {V : CV} {C : Circ} {sv rv lv : Value} {L I O lits : List Int}
theorem tVal_own (h : C.In w V) (ok : C.Ok) (ht : TabC w) (hs : RowE 1 encI w sv L) (hr : RowE 1 encI w rv I) (hO : (checkR C).2 = 0 → IsOrd C O) :
    Calls Tryd.prog 11 #[V.val C.max, sv, rv] w fun e w' => Below w.heap.size w w' ∧ ∃ v, e = .returned (.tuple #[v, .int .i64 (fit3 C L I)]) ∧ w'.ownsRow w.heap.size 3 1 v (valI C O L I).length ((valI C O L I).map (Value.int .i64)) := by
  refine (tValues_any w V C sv rv L I O h ok ht hs hr hO).mono ?_
  rintro e w' ⟨hb, v, rfl, hno, hyes⟩
  refine ⟨hb, v, rfl, ?_⟩
  unfold valI
  by_cases h0 : fit3 C L I = 0
  · rw [if_pos h0]
    obtain ⟨g, rfl, hg, ht⟩ := hyes h0
    have := nums_ownT ht hg (by rw [val3_len]; have := (right_of (fit3_ok h0).1).m1; unfold maxLen; omega)
    rw [val3_len] at this ⊢
    exact this
  · rw [if_neg h0, hno h0]; exact nil_ownI _ _
theorem rTVal_own (h : C.In w V) (ok : C.Ok) (htn : ∀ s ∈ C.comments, s.size ≤ maxLen) (hs : RowE 1 encI w sv L) (hr : RowE 1 encI w rv I) (hO : (checkR C).2 = 0 → IsOrd C O) :
    Calls Tryd.prog 12 #[V.val C.max, sv, rv] w fun e w' => Below w.heap.size w w' ∧ ∃ v, e = .returned (.tuple #[v, .int .i64 (fit3 C L I)]) ∧ w'.ownsRow w.heap.size 3 1 v (valI C O L I).length ((valI C O L I).map (Value.int .i64)) := by
  refine (rTValues_any w V C sv rv L I O h ok htn hs hr hO).mono ?_
  rintro e w' ⟨hb, v, rfl, hno, hyes⟩
  refine ⟨hb, v, rfl, ?_⟩
  unfold valI
  by_cases h0 : fit3 C L I = 0
  · rw [if_pos h0]
    obtain ⟨g, rfl, hg, ht⟩ := hyes h0
    have := nums_ownT ht hg (by rw [val3_len]; have := (right_of (fit3_ok h0).1).m1; unfold maxLen; omega)
    rw [val3_len] at this ⊢
    exact this
  · rw [if_neg h0, hno h0]; exact nil_ownI _ _
theorem tStep_own (h : C.In w V) (ok : C.Ok) (ht : TabC w) (hs : RowE 1 encI w sv L) (hr : RowE 1 encI w rv I) (hO : (checkR C).2 = 0 → IsOrd C O) :
    Calls Tryd.prog 13 #[V.val C.max, sv, rv] w fun e w' => Below w.heap.size w w' ∧ ∃ v, e = .returned (.tuple #[v, .int .i64 (fit3 C L I)]) ∧ w'.ownsRow w.heap.size 3 1 v (nextI C O L I).length ((nextI C O L I).map (Value.int .i64)) := by
  refine (tStep_any w V C sv rv L I O h ok ht hs hr hO).mono ?_
  rintro e w' ⟨hb, v, rfl, hno, hyes⟩
  refine ⟨hb, v, rfl, ?_⟩
  unfold nextI
  by_cases h0 : fit3 C L I = 0
  · rw [if_pos h0]
    obtain ⟨g, rfl, hg, ht⟩ := hyes h0
    have := nums_ownT ht hg (by rw [next3_len]; have := (right_of (fit3_ok h0).1).nl; unfold maxLen; omega)
    rw [next3_len] at this ⊢
    exact this
  · rw [if_neg h0, hno h0]; exact nil_ownI _ _
theorem rTStep_own (h : C.In w V) (ok : C.Ok) (htn : ∀ s ∈ C.comments, s.size ≤ maxLen) (hs : RowE 1 encI w sv L) (hr : RowE 1 encI w rv I) (hO : (checkR C).2 = 0 → IsOrd C O) :
    Calls Tryd.prog 14 #[V.val C.max, sv, rv] w fun e w' => Below w.heap.size w w' ∧ ∃ v, e = .returned (.tuple #[v, .int .i64 (fit3 C L I)]) ∧ w'.ownsRow w.heap.size 3 1 v (nextI C O L I).length ((nextI C O L I).map (Value.int .i64)) := by
  refine (rTStep_any w V C sv rv L I O h ok htn hs hr hO).mono ?_
  rintro e w' ⟨hb, v, rfl, hno, hyes⟩
  refine ⟨hb, v, rfl, ?_⟩
  unfold nextI
  by_cases h0 : fit3 C L I = 0
  · rw [if_pos h0]
    obtain ⟨g, rfl, hg, ht⟩ := hyes h0
    have := nums_ownT ht hg (by rw [next3_len]; have := (right_of (fit3_ok h0).1).nl; unfold maxLen; omega)
    rw [next3_len] at this ⊢
    exact this
  · rw [if_neg h0, hno h0]; exact nil_ownI _ _
theorem tLift_own (h : C.In w V) (ok : C.Ok) (ht : TabC w) (hs : RowE 1 encI w sv L) (hr : RowE 1 encI w rv I) (hl : RowE 1 encI w lv lits) (h64 : ∀ l ∈ lits, I64 l) (hO : (checkR C).2 = 0 → IsOrd C O) :
    Calls Tryd.prog 24 #[V.val C.max, sv, rv, lv] w fun e w' => Below w.heap.size w w' ∧ ∃ v, e = .returned (.tuple #[v, .int .i64 (liftE C O L I lits)]) ∧ w'.ownsRow w.heap.size 3 1 v (liftI C O L I lits).length ((liftI C O L I lits).map (Value.int .i64)) := by
  refine (tLift_any w V C sv rv lv L I lits O h ok ht hs hr hl (fun l h9 => (h64 l h9).2) hO).mono ?_
  rintro e w' ⟨hb, v, rfl, hno, hyes⟩
  refine ⟨hb, v, rfl, ?_⟩
  unfold liftI
  by_cases h0 : liftE C O L I lits = 0
  · rw [if_pos h0]
    obtain ⟨g, rfl, hg, ht⟩ := hyes h0
    have := nums_ownT ht hg (by rw [lift3_len]; have h1 := (fit3_ok (liftE_ok h0)).2.1.1; have := (right_of (fit3_ok (liftE_ok h0)).1).nl; unfold maxLen; omega)
    rw [lift3_len] at this ⊢
    rw [(fit3_ok (liftE_ok h0)).2.1.1] at this ⊢
    exact this
  · rw [if_neg h0, hno h0]; exact nil_ownI _ _
theorem rTLift_own (h : C.In w V) (ok : C.Ok) (htn : ∀ s ∈ C.comments, s.size ≤ maxLen) (hs : RowE 1 encI w sv L) (hr : RowE 1 encI w rv I) (hl : RowE 1 encI w lv lits) (h64 : ∀ l ∈ lits, I64 l) (hO : (checkR C).2 = 0 → IsOrd C O) :
    Calls Tryd.prog 25 #[V.val C.max, sv, rv, lv] w fun e w' => Below w.heap.size w w' ∧ ∃ v, e = .returned (.tuple #[v, .int .i64 (liftE C O L I lits)]) ∧ w'.ownsRow w.heap.size 3 1 v (liftI C O L I lits).length ((liftI C O L I lits).map (Value.int .i64)) := by
  refine (rTLift_any w V C sv rv lv L I lits O h ok htn hs hr hl (fun l h9 => h64 l h9) hO).mono ?_
  rintro e w' ⟨hb, v, rfl, hno, hyes⟩
  refine ⟨hb, v, rfl, ?_⟩
  unfold liftI
  by_cases h0 : liftE C O L I lits = 0
  · rw [if_pos h0]
    have := hyes h0
    rw [lift3_len, (fit3_ok (liftE_ok h0)).2.1.1]
    exact this
  · rw [if_neg h0, hno h0]; exact nil_ownI _ _
end
end Go.Proofs.YtbeaicmjohlboaaDoor

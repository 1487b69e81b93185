/- Sim, the book's side: a trace copied; whether two traces are the same. -/
import Derived.Test.YtilbgopdciiadaaSimO
import Derived.Test.YtilbgopdciiadaaSimQ
import Derived.Test.YtilbgopdciiadaaArgS
namespace Go.Proofs.Ytilbgopdciiadaa
open Go.RowKit

/-- What stands while the document tells a moment: the struct in block g, its lists the call's own. -/
structure MoS (W0 wr : World) (g : Nat) (x : MV) (ss : List Bool) (bs : List Int) (fs : List (Int × Int)) : Prop where
  below : Below W0.heap.size W0 wr
  lt : W0.heap.size ≤ g
  blk : Blk wr g 75 #[x.s, .bool x.h, x.b, x.f]
  s : wr.ownsRow W0.heap.size 4 1 x.s ss.length (ss.map Value.bool)
  b : wr.ownsRow W0.heap.size 3 1 x.b bs.length (bs.map (Value.int .i64))
  f : wr.ownsRow W0.heap.size 181 2 x.f fs.length (fs.flatMap encQ)
theorem MoS.putF {W0 wr w3 : World} {g : Nat} {x : MV} {ss : List Bool} {bs : List Int} {fs : List (Int × Int)} {p : Int × Int} {v : Value} (h : MoS W0 wr g x ss bs fs) (ho : w3.ownsRow W0.heap.size 181 2 v (fs.length + 1) (fs.flatMap encQ ++ [.int .i64 p.1, .int .i64 p.2]))
    (hg : (wr.alloc (.cells #[.int .i64 p.1, .int .i64 p.2] 181)).grownBy w3 x.f.ownBlock) : Below W0.heap.size W0 w3 ∧ Blk w3 g 75 #[x.s, .bool x.h, x.b, x.f] ∧ MoS W0 (w3.setCell ⟨g, 3, none⟩ v) g ⟨x.s, x.h, x.b, v⟩ ss bs (fs ++ [p]) := by
  have hsz := h.below.size
  have hlt := h.blk.lt
  have hbl : Below W0.heap.size W0 w3 := (h.below.alloc hsz (.cells #[.int .i64 p.1, .int .i64 p.2] 181)).grown hg (by simp; omega) (fun k hk => (h.f.lt k hk).1)
  have hbk : Blk w3 g 75 #[x.s, .bool x.h, x.b, x.f] := (h.blk.alloc _).grown hg (fun e => own_blk_ne h.f h.blk (by decide) e.symm)
  have hs := own_other (h.s.alloc (.cells #[.int .i64 p.1, .int .i64 p.2] 181)) (h.f.alloc (.cells #[.int .i64 p.1, .int .i64 p.2] 181)) (by decide) hg
  have hb := own_other (h.b.alloc (.cells #[.int .i64 p.1, .int .i64 p.2] 181)) (h.f.alloc (.cells #[.int .i64 p.1, .int .i64 p.2] 181)) (by decide) hg
  refine ⟨hbl, hbk, hbl.setCell (by simpa using h.lt) _, h.lt, by simpa using hbk.set_ 3 v, own_setQ hs _ _ (fun k hk e => own_blk_ne hs hbk (by decide) (by rw [hk, e])), own_setQ hb _ _ (fun k hk e => own_blk_ne hb hbk (by decide) (by rw [hk, e])), ?_⟩
  have := own_setQ ho ⟨g, 3, none⟩ v (fun k hk e => own_blk_ne ho hbk (by decide) (by rw [hk, e]))
  simpa using this
theorem MoS.fin {W0 wr : World} {g b1 B : Nat} {x : MV} {ss : List Bool} {bs : List Int} {fs : List (Int × Int)} {x0 x1 x2 x3 : Value} (h : MoS W0 wr g x ss bs fs) (hm : Blk wr b1 75 #[x0, x1, x2, x3]) (hB : B ≤ W0.heap.size) (u0 u1 u2 u3 : Value) :
    MomR ((((wr.setCell ⟨b1, 0, none⟩ u0).setCell ⟨b1, 1, none⟩ u1).setCell ⟨b1, 2, none⟩ u2).setCell ⟨b1, 3, none⟩ u3) B x ⟨ss, x.h, bs, fs⟩ := by
  have key : ∀ (size n : Nat) (t : TypeId) (v : Value) (xs : List Value), t ≠ 75 → wr.ownsRow W0.heap.size t size v n xs → ((((wr.setCell ⟨b1, 0, none⟩ u0).setCell ⟨b1, 1, none⟩ u1).setCell ⟨b1, 2, none⟩ u2).setCell ⟨b1, 3, none⟩ u3).ownsRow B t size v n xs := fun size n t v xs hne ho => by
    have hn := fun (k : Nat) (hk : v.ownBlock = some k) (e : k = b1) => own_blk_ne ho hm hne (by rw [hk, e])
    exact own_le (own_setQ (own_setQ (own_setQ (own_setQ ho _ _ hn) _ _ hn) _ _ hn) _ _ hn) hB
  exact ⟨key _ _ _ _ _ (by decide) h.s, rfl, key _ _ _ _ _ (by decide) h.b, key _ _ _ _ _ (by decide) h.f⟩
end Go.Proofs.Ytilbgopdciiadaa

namespace Go.Proofs.Ytilbgopdciiadaa
open Go.RowKit

theorem lenM (x : MV) : (encM x).length = 4 := rfl
/-- A list of moments as the document makes it: appended one by one. -/
structure DMs (w : World) (B : Nat) (v : Value) (xs : List MV) (ms : List Mom) : Prop where
  len : xs.length = ms.length
  own : w.ownsRow B 75 4 v ms.length (xs.flatMap encM)
  at_ : ∀ (i : Nat) (x : MV) (m : Mom), xs[i]? = some x → ms[i]? = some m → MomR w B x m
theorem DMs.below {w w' : World} {B : Nat} {v : Value} {xs : List MV} {ms : List Mom} (h : DMs w B v xs ms) (hb : Below w.heap.size w w') : DMs w' B v xs ms :=
  ⟨h.len, own_below h.own hb, fun i x m hx hm => (h.at_ i x m hx hm).keep (fun g hg => hb.block g ((h.at_ i x m hx hm).lt hg).2)⟩
theorem MomR.le {w : World} {B B' : Nat} {x : MV} {m : Mom} (h : MomR w B x m) (hb : B' ≤ B) : MomR w B' x m := ⟨own_le h.s hb, h.h, own_le h.b hb, own_le h.f hb⟩
theorem DMs.snoc {w w3 : World} {B : Nat} {v v3 : Value} {xs : List MV} {ms : List Mom} {x : MV} {m : Mom} (h : DMs w B v xs ms) (hx : MomR w B x m) (o : Obj)
    (ho : w3.ownsRow B 75 4 v3 (ms.length + 1) (xs.flatMap encM ++ encM x)) (hg : (w.alloc o).grownBy w3 v.ownBlock) : DMs w3 B v3 (xs ++ [x]) (ms ++ [m]) := by
  have key : ∀ (y : MV) (n : Mom), MomR w B y n → MomR w3 B y n := fun y n hy => by
    have hown := h.own.alloc o
    exact ⟨own_other (hy.s.alloc o) hown (by decide) hg, hy.h, own_other (hy.b.alloc o) hown (by decide) hg, own_other (hy.f.alloc o) hown (by decide) hg⟩
  refine ⟨by simp [h.len], by simpa [List.flatMap_append] using ho, fun i y n hy hn => ?_⟩
  by_cases hi : i < xs.length
  · rw [List.getElem?_append_left hi] at hy
    rw [List.getElem?_append_left (by rw [← h.len]; exact hi)] at hn
    exact key y n (h.at_ i y n hy hn)
  · rw [List.getElem?_append_right (by omega)] at hy
    rw [List.getElem?_append_right (by rw [← h.len]; omega), ← h.len] at hn
    have : i - xs.length = 0 := by have := (List.getElem?_eq_some_iff.1 hy).1; simp at this; exact this
    rw [this] at hy hn
    simp at hy hn
    subst hy hn
    exact key _ _ hx
theorem DMs.le {w : World} {B B' : Nat} {v : Value} {xs : List MV} {ms : List Mom} (h : DMs w B v xs ms) (hb : B' ≤ B) : DMs w B' v xs ms := ⟨h.len, own_le h.own hb, fun i x m hx hm => (h.at_ i x m hx hm).le hb⟩
theorem DMs.nil (w : World) (B : Nat) : DMs w B (.slice none 0 0) [] [] := ⟨rfl, World.ownsRow_nil _ _ _ _, fun i x m hx => by simp at hx⟩
/-- What changes in one block below the list's own leaves it. -/
theorem DMs.far {w w' : World} {B g : Nat} {v : Value} {xs : List MV} {ms : List Mom} (h : DMs w B v xs ms) (hg : w.grownBy w' (some g)) (hlt : g < B) : DMs w' B v xs ms := by
  have key : ∀ k, B ≤ k → k < w.heap.size → w'.heap[k]? = w.heap[k]? := fun k h1 h2 => hg.block k h2 (fun e => by injection e with e; omega)
  exact ⟨h.len, own_of_block h.own (fun k hk => key k (h.own.lt k hk).1 (h.own.lt k hk).2), fun i x m hx hm => (h.at_ i x m hx hm).keep (fun k hk => key k ((h.at_ i x m hx hm).lt hk).1 ((h.at_ i x m hx hm).lt hk).2)⟩
theorem DMs.row {w : World} {B : Nat} {v : Value} {xs : List MV} {ms : List Mom} (h : DMs w B v xs ms) : MomRow w v ms := by
  have ho := h.own
  rw [← h.len] at ho
  obtain ⟨A, c, e, h1, h2, h3⟩ := own_rowe lenM ho
  refine ⟨A, c, by rw [e, h.len], by rw [← h.len]; exact h1, h2, fun i m hm => ?_⟩
  have hil : i < xs.length := by rw [h.len]; exact (List.getElem?_eq_some_iff.1 hm).1
  have hx := List.getElem?_eq_getElem hil
  generalize xs[i] = x at hx
  have hr := h.at_ i x m hx hm
  obtain ⟨b, off, eA, hb, hc⟩ := h3 i x hx
  have e0 := hc 0 _ rfl
  have e1 := hc 1 _ rfl
  have e2 := hc 2 _ rfl
  have e3 := hc 3 _ rfl
  simp only [Nat.add_zero, ← Nat.add_assoc] at e0 e1 e2 e3
  exact ⟨b, off, x, eA, e0, e1, e2, e3, hb, own_rowe lenO (by rw [flat_bools]; exact hr.s), hr.h, own_rowe lenI (by rw [flat_ints]; exact hr.b), own_rowe lenQ hr.f⟩

end Go.Proofs.Ytilbgopdciiadaa

namespace Go.Proofs.Ytilbgopdciiadaa
open Go.RowKit

/-- What stands while a trace is copied: the new struct in block g, its lists the call's own. -/
structure CT (W0 wr : World) (g : Nat) (iv ov : Value) (lp : Int) (ini : List Bool) (us : List Value) (rows : List (List Bool)) : Prop where
  below : Below W0.heap.size W0 wr
  lt : W0.heap.size ≤ g
  blk : Blk wr g 53 #[iv, ov, .int .i64 lp]
  i : wr.ownsRow W0.heap.size 4 1 iv ini.length (ini.map Value.bool)
  len : us.length = rows.length
  o : wr.ownsRow W0.heap.size 50 1 ov us.length us
  each : ∀ (i : Nat) (u : Value) (zs : List Bool), us[i]? = some u → rows[i]? = some zs → wr.ownsRow W0.heap.size 4 1 u zs.length (zs.map Value.bool)
/-- One row more. -/
theorem CT.put {W0 wr w5 w7 : World} {g : Nat} {iv ov u v : Value} {lp : Int} {ini zs : List Bool} {us : List Value} {rows : List (List Bool)} (h : CT W0 wr g iv ov lp ini us rows) (hb : Below wr.heap.size wr w5) (hu : w5.ownsRow wr.heap.size 4 1 u zs.length (zs.map Value.bool))
    (o : Obj) (hv : w7.ownsRow W0.heap.size 50 1 v (us.length + 1) (us ++ [u])) (hg : (w5.alloc o).grownBy w7 ov.ownBlock) :
    Blk w7 g 53 #[iv, ov, .int .i64 lp] ∧ CT W0 (w7.setCell ⟨g, 1, none⟩ v) g iv v lp ini (us ++ [u]) (rows ++ [zs]) := by
  have hsz := h.below.size
  have hb5 : Below W0.heap.size W0 w5 := bt h.below (Nat.le_refl _) hb
  have ho5 := (own_below h.o hb).alloc o
  have hbk5 := h.blk.below hb h.blk.lt
  have hb7 : Below W0.heap.size W0 w7 := (hb5.alloc hb5.size o).grown hg (by have := hb5.size; simp; omega) (fun k hk => (h.o.lt k hk).1)
  have hbk7 : Blk w7 g 53 #[iv, ov, .int .i64 lp] := (hbk5.alloc o).grown hg (fun e => own_blk_ne (own_below h.o hb) hbk5 (by decide) e.symm)
  have key : ∀ (x : Value) (ys : List Bool), w5.ownsRow W0.heap.size 4 1 x ys.length (ys.map Value.bool) → (w7.setCell ⟨g, 1, none⟩ v).ownsRow W0.heap.size 4 1 x ys.length (ys.map Value.bool) := fun x ys hx => by
    have h7 := own_other (hx.alloc o) ho5 (by decide) hg
    exact own_setQ h7 _ _ (fun k hk e => own_blk_ne h7 hbk7 (by decide) (by rw [hk, e]))
  refine ⟨hbk7, hb7.setCell (by simpa using h.lt) _, h.lt, by simpa using hbk7.set_ 1 v, key _ _ (own_below h.i hb), by simp [h.len], ?_, fun i x ys hx hy => ?_⟩
  · have := own_setQ hv ⟨g, 1, none⟩ v (fun k hk e => own_blk_ne hv hbk7 (by decide) (by rw [hk, e]))
    simpa using this
  · by_cases hi : i < us.length
    · rw [List.getElem?_append_left hi] at hx
      rw [List.getElem?_append_left (by rw [← h.len]; exact hi)] at hy
      exact key x ys (own_below (h.each i x ys hx hy) hb)
    · rw [List.getElem?_append_right (by omega)] at hx
      rw [List.getElem?_append_right (by rw [← h.len]; omega), ← h.len] at hy
      have : i - us.length = 0 := by have := (List.getElem?_eq_some_iff.1 hx).1; simp at this; exact this
      rw [this] at hx hy
      simp at hx hy
      subst hx hy
      exact key _ _ (own_le hu (by omega))
/-- A trace whose lists are the call's own. -/
structure OwnT (w : World) (B : Nat) (t : Tr) (U : TV) : Prop where
  i : w.ownsRow B 4 1 U.i t.init.length (t.init.map Value.bool)
  ex : ∃ us : List Value, us.length = t.rows.length ∧ w.ownsRow B 50 1 U.r us.length us ∧ ∀ (i : Nat) (u : Value) (zs : List Bool), us[i]? = some u → t.rows[i]? = some zs → w.ownsRow B 4 1 u zs.length (zs.map Value.bool)
theorem OwnT.in_ {w : World} {B : Nat} {t : Tr} {U : TV} (h : OwnT w B t U) : t.In w U := by
  obtain ⟨us, h1, h2, h3⟩ := h.ex
  exact ⟨own_rowe lenO (by rw [flat_bools]; exact h.i), us, own_rowe lenV (by rw [flat_vals]; exact h2), h1, fun i u zs hu hz => own_rowe lenO (by rw [flat_bools]; exact h3 i u zs hu hz)⟩
theorem OwnT.below {w w' : World} {B : Nat} {t : Tr} {U : TV} (h : OwnT w B t U) (hb : Below w.heap.size w w') : OwnT w' B t U := by
  obtain ⟨us, h1, h2, h3⟩ := h.ex
  exact ⟨own_below h.i hb, us, h1, own_below h2 hb, fun i u zs hu hz => own_below (h3 i u zs hu hz) hb⟩
theorem CT.fin {W0 wr : World} {g b1 : Nat} {iv ov : Value} {lp : Int} {us : List Value} {t : Tr} {x0 x1 x2 : Value} (h : CT W0 wr g iv ov lp t.init us t.rows) (hm : Blk wr b1 53 #[x0, x1, x2]) (u0 u1 u2 : Value) :
    OwnT (((wr.setCell ⟨b1, 0, none⟩ u0).setCell ⟨b1, 1, none⟩ u1).setCell ⟨b1, 2, none⟩ u2) W0.heap.size t ⟨iv, ov⟩ := by
  have key : ∀ (size n : Nat) (t : TypeId) (v : Value) (xs : List Value), t ≠ 53 → wr.ownsRow W0.heap.size t size v n xs → (((wr.setCell ⟨b1, 0, none⟩ u0).setCell ⟨b1, 1, none⟩ u1).setCell ⟨b1, 2, none⟩ u2).ownsRow W0.heap.size t size v n xs := fun size n t v xs hne ho => by
    have hn := fun (k : Nat) (hk : v.ownBlock = some k) (e : k = b1) => own_blk_ne ho hm hne (by rw [hk, e])
    exact own_setQ (own_setQ (own_setQ ho _ _ hn) _ _ hn) _ _ hn
  exact ⟨key _ _ _ _ _ (by decide) h.i, us, h.len, key _ _ _ _ _ (by decide) h.o, fun i u zs hu hz => key _ _ _ _ _ (by decide) (h.each i u zs hu hz)⟩
theorem infoBB : (Try.prog.info? 50).map (fun i => (i.zero, i.size, i.bytes)) = some (some (.slice none 0 0), 1, 24) := by kernel_rfl

end Go.Proofs.Ytilbgopdciiadaa

/- Sim, the book's side: a trace copied; whether two traces are the same. -/
import Derived.Test.YtjbglgmbnjdhcaaDoorSimO
import Derived.Test.YtjbglgmbnjdhcaaDoorSimQ
import Derived.Test.YtjbglgmbnjdhcaaDoorArgS
namespace Go.Proofs.YtjbglgmbnjdhcaaDoor
open Go.RowKit

end Go.Proofs.YtjbglgmbnjdhcaaDoor

namespace Go.Proofs.YtjbglgmbnjdhcaaDoor
open Go.RowKit

end Go.Proofs.YtjbglgmbnjdhcaaDoor

namespace Go.Proofs.YtjbglgmbnjdhcaaDoor
open Go.RowKit

/-- What stands while a trace is copied: the new struct in block g, its lists the call's own. -/
structure CT (W0 wr : World) (g : Nat) (iv ov : Value) (lp : Int) (ini : List Bool) (us : List Value) (rows : List (List Bool)) : Prop where
  below : Below W0.heap.size W0 wr
  lt : W0.heap.size ≤ g
  blk : Blk wr g 26 #[iv, ov, .int .i64 lp]
  i : wr.ownsRow W0.heap.size 4 1 iv ini.length (ini.map Value.bool)
  len : us.length = rows.length
  o : wr.ownsRow W0.heap.size 23 1 ov us.length us
  each : ∀ (i : Nat) (u : Value) (zs : List Bool), us[i]? = some u → rows[i]? = some zs → wr.ownsRow W0.heap.size 4 1 u zs.length (zs.map Value.bool)
theorem CT.new1 {W0 w1 : World} {v : Value} {lp : Int} {ss : List Bool} (hb : Below W0.heap.size W0 w1) (ho : w1.ownsRow W0.heap.size 4 1 v ss.length (ss.map Value.bool)) :
    CT W0 (w1.alloc (.cells #[v, .slice none 0 0, .int .i64 lp] 26)) w1.heap.size v (.slice none 0 0) lp ss [] [] :=
  ⟨hb.alloc hb.size _, hb.size, Blk.new w1 _ _, ho.alloc _, rfl, World.ownsRow_nil _ _ _ _, fun i u zs hu _ => by simp at hu⟩
theorem CT.new2 {W0 w1 : World} {g : Nat} {v : Value} {lp : Int} {ss : List Bool} {x0 x1 x2 : Value} (hb : Below W0.heap.size W0 w1) (hm : Blk w1 g 26 #[x0, x1, x2]) (hg : W0.heap.size ≤ g) (ho : w1.ownsRow W0.heap.size 4 1 v ss.length (ss.map Value.bool)) :
    CT W0 (((w1.setCell ⟨g, 0, none⟩ v).setCell ⟨g, 1, none⟩ (.slice none 0 0)).setCell ⟨g, 2, none⟩ (.int .i64 lp)) g v (.slice none 0 0) lp ss [] [] := by
  have hn := fun (k : Nat) (hk : v.ownBlock = some k) (e : k = g) => own_blk_ne ho hm (by decide) (by rw [hk, e])
  refine ⟨((hb.setCell (p := ⟨g, 0, none⟩) hg _).setCell (p := ⟨g, 1, none⟩) hg _).setCell (p := ⟨g, 2, none⟩) hg _, hg, by simpa using ((hm.set_ 0 v).set_ 1 (.slice none 0 0)).set_ 2 (.int .i64 lp), ?_, rfl, World.ownsRow_nil _ _ _ _, fun i u zs hu _ => by simp at hu⟩
  exact own_setQ (own_setQ (own_setQ ho _ _ hn) _ _ hn) _ _ hn
/-- One row more. -/
theorem CT.put {W0 wr w5 w7 : World} {g : Nat} {iv ov u v : Value} {lp : Int} {ini zs : List Bool} {us : List Value} {rows : List (List Bool)} (h : CT W0 wr g iv ov lp ini us rows) (hb : Below wr.heap.size wr w5) (hu : w5.ownsRow wr.heap.size 4 1 u zs.length (zs.map Value.bool))
    (o : Obj) (hv : w7.ownsRow W0.heap.size 23 1 v (us.length + 1) (us ++ [u])) (hg : (w5.alloc o).grownBy w7 ov.ownBlock) :
    Blk w7 g 26 #[iv, ov, .int .i64 lp] ∧ CT W0 (w7.setCell ⟨g, 1, none⟩ v) g iv v lp ini (us ++ [u]) (rows ++ [zs]) := by
  have hsz := h.below.size
  have hb5 : Below W0.heap.size W0 w5 := bt h.below (Nat.le_refl _) hb
  have ho5 := (own_below h.o hb).alloc o
  have hbk5 := h.blk.below hb h.blk.lt
  have hb7 : Below W0.heap.size W0 w7 := (hb5.alloc hb5.size o).grown hg (by have := hb5.size; simp; omega) (fun k hk => (h.o.lt k hk).1)
  have hbk7 : Blk w7 g 26 #[iv, ov, .int .i64 lp] := (hbk5.alloc o).grown hg (fun e => own_blk_ne (own_below h.o hb) hbk5 (by decide) e.symm)
  have key : ∀ (x : Value) (ys : List Bool), w5.ownsRow W0.heap.size 4 1 x ys.length (ys.map Value.bool) → (w7.setCell ⟨g, 1, none⟩ v).ownsRow W0.heap.size 4 1 x ys.length (ys.map Value.bool) := fun x ys hx => by
    have h7 := own_other (hx.alloc o) ho5 (by decide) hg
    exact own_setQ h7 _ _ (fun k hk e => own_blk_ne h7 hbk7 (by decide) (by rw [hk, e]))
  refine ⟨hbk7, hb7.setCell (by simpa using h.lt) _, h.lt, by simpa using hbk7.set_ 1 v, key _ _ (own_below h.i hb), by simp [h.len], ?_, fun i x ys hx hy => ?_⟩
  · have := own_setQ hv ⟨g, 1, none⟩ v (fun k hk e => own_blk_ne hv hbk7 (by decide) (by rw [hk, e]))
    simpa using this
  · by_cases hi : i < us.length
    · rw [List.getElem?_append_left hi] at hx
      rw [List.getElem?_append_left (by rw [← h.len]; exact hi)] at hy
      exact key x ys (own_below (h.each i x ys hx hy) hb)
    · rw [List.getElem?_append_right (by omega)] at hx
      rw [List.getElem?_append_right (by rw [← h.len]; omega), ← h.len] at hy
      have : i - us.length = 0 := by have := (List.getElem?_eq_some_iff.1 hx).1; simp at this; exact this
      rw [this] at hx hy
      simp at hx hy
      subst hx hy
      exact key _ _ (own_le hu (by omega))
/-- A trace whose lists are the call's own. -/
structure OwnT (w : World) (B : Nat) (t : Tr) (U : TV) : Prop where
  i : w.ownsRow B 4 1 U.i t.init.length (t.init.map Value.bool)
  ex : ∃ us : List Value, us.length = t.rows.length ∧ w.ownsRow B 23 1 U.r us.length us ∧ ∀ (i : Nat) (u : Value) (zs : List Bool), us[i]? = some u → t.rows[i]? = some zs → w.ownsRow B 4 1 u zs.length (zs.map Value.bool)
theorem OwnT.in_ {w : World} {B : Nat} {t : Tr} {U : TV} (h : OwnT w B t U) : t.In w U := by
  obtain ⟨us, h1, h2, h3⟩ := h.ex
  exact ⟨own_rowe lenO (by rw [flat_bools]; exact h.i), us, own_rowe lenV (by rw [flat_vals]; exact h2), h1, fun i u zs hu hz => own_rowe lenO (by rw [flat_bools]; exact h3 i u zs hu hz)⟩
theorem OwnT.below {w w' : World} {B : Nat} {t : Tr} {U : TV} (h : OwnT w B t U) (hb : Below w.heap.size w w') : OwnT w' B t U := by
  obtain ⟨us, h1, h2, h3⟩ := h.ex
  exact ⟨own_below h.i hb, us, h1, own_below h2 hb, fun i u zs hu hz => own_below (h3 i u zs hu hz) hb⟩
theorem CT.fin {W0 wr : World} {g b1 : Nat} {iv ov : Value} {lp : Int} {us : List Value} {t : Tr} {x0 x1 x2 : Value} (h : CT W0 wr g iv ov lp t.init us t.rows) (hm : Blk wr b1 26 #[x0, x1, x2]) (u0 u1 u2 : Value) :
    OwnT (((wr.setCell ⟨b1, 0, none⟩ u0).setCell ⟨b1, 1, none⟩ u1).setCell ⟨b1, 2, none⟩ u2) W0.heap.size t ⟨iv, ov⟩ := by
  have key : ∀ (size n : Nat) (t : TypeId) (v : Value) (xs : List Value), t ≠ 26 → wr.ownsRow W0.heap.size t size v n xs → (((wr.setCell ⟨b1, 0, none⟩ u0).setCell ⟨b1, 1, none⟩ u1).setCell ⟨b1, 2, none⟩ u2).ownsRow W0.heap.size t size v n xs := fun size n t v xs hne ho => by
    have hn := fun (k : Nat) (hk : v.ownBlock = some k) (e : k = b1) => own_blk_ne ho hm hne (by rw [hk, e])
    exact own_setQ (own_setQ (own_setQ ho _ _ hn) _ _ hn) _ _ hn
  exact ⟨key _ _ _ _ _ (by decide) h.i, us, h.len, key _ _ _ _ _ (by decide) h.o, fun i u zs hu hz => key _ _ _ _ _ (by decide) (h.each i u zs hu hz)⟩
theorem infoBB : (Tryd.prog.info? 23).map (fun i => (i.zero, i.size, i.bytes)) = some (some (.slice none 0 0), 1, 24) := by kernel_rfl

set_option maxHeartbeats 8000000 in
set_option maxRecDepth 100000 in
theorem CopyTrace_any (w : World) (U : TV) (t : Tr) (ht : t.In w U) (hr : t.Reach) :
    Calls Tryd.prog 6 #[U.val t.loop] w fun e w' => ∃ U' : TV, e = .returned (U'.val t.loop) ∧ Below w.heap.size w w' ∧ ∃ B, OwnT w' B t U' := by
  have hall : ∀ wz, Below ((w.alloc (.cells (U.cells t.loop) 26)).alloc (.cells #[.slice none 0 0, .slice none 0 0, .int .i64 0] 26)).heap.size ((w.alloc (.cells (U.cells t.loop) 26)).alloc (.cells #[.slice none 0 0, .slice none 0 0, .int .i64 0] 26)) wz →
      Blk wz w.heap.size 26 (U.cells t.loop) ∧ Blk wz (w.heap.size + 1) 26 #[.slice none 0 0, .slice none 0 0, .int .i64 0] ∧ Below w.heap.size w wz := fun wz hb => by
    have h1 : Below w.heap.size w wz := (((Below.refl w.heap.size w).alloc (Nat.le_refl _) _).alloc (by simp) _).trans (hb.mono (by simp; omega))
    have e1 := ((Blk.new w 26 (U.cells t.loop)).alloc (.cells #[.slice none 0 0, .slice none 0 0, .int .i64 0] 26)).below hb (by simp; omega)
    have e2 := (Blk.new (w.alloc (.cells (U.cells t.loop) 26)) 26 #[.slice none 0 0, .slice none 0 0, .int .i64 0]).below hb (by simp)
    rw [show (w.alloc (.cells (U.cells t.loop) 26)).heap.size = w.heap.size + 1 by simp] at e2
    exact ⟨e1, e2, h1⟩
  have hx0 : Below ((w.alloc (.cells (U.cells t.loop) 26)).alloc (.cells #[.slice none 0 0, .slice none 0 0, .int .i64 0] 26)).heap.size ((w.alloc (.cells (U.cells t.loop) 26)).alloc (.cells #[.slice none 0 0, .slice none 0 0, .int .i64 0] 26)) ((w.alloc (.cells (U.cells t.loop) 26)).alloc (.cells #[.slice none 0 0, .slice none 0 0, .int .i64 0] 26)) := Below.refl _ _
  obtain ⟨i0, hi0, hz0, hz1, hz2⟩ := info_of2 infoO2
  obtain ⟨iB, hiB, hBz0, hBz1, hBz2⟩ := info_of2 infoBB
  have HI0 := Lib.hid (And.intro hi0 (And.intro hz0 (And.intro hz1 hz2)))
  have HIB := Lib.hid (And.intro hiB (And.intro hBz0 (And.intro hBz1 hBz2)))
  obtain ⟨AI, cI, hie, hir⟩ := ht.i.reads lenO (by omega)
  obtain ⟨AR, cR, eR, hrm, hrr⟩ := ht.r.at_
  have hnil := hr.i
  have hnrl := hr.r
  have HRS := Lib.hid hr.rs
  obtain ⟨Ui, Ur⟩ := U
  simp only at eR hie
  subst eR hie
  obtain ⟨ni, hni⟩ : ∃ n, t.init.length = n := ⟨_, rfl⟩
  obtain ⟨n, hn⟩ : ∃ n, t.rows.length = n := ⟨_, rfl⟩
  obtain ⟨lp, hlp⟩ : ∃ lp, t.loop = lp := ⟨_, rfl⟩
  rw [hni, hn, hlp] at hall hx0
  rw [hni] at hir hnil
  rw [hn] at hnrl
  rw [hni, hn, hlp]
  have HALL := Lib.hid hall
  have HX := Lib.hid hx0
  have HRR := Lib.hid hrr
  have HIR := Lib.hid hir
  have HN := Lib.hid (And.intro hni (And.intro hn hlp))
  clear ht hr hall hx0 hrr hir hni hn hlp hrm hi0 hz0 hz1 hz2 hiB hBz0 hBz1 hBz2
  go_enter Tryd.func6, Tryd.ntmps6
  go_upto_region 1 with (fail)
  go_cut [3] (fun p wx => ∃ (g : Nat) (iv ov : Value), p = .pointer (some ⟨g, 0, none⟩) ∧ CT ((w.alloc (.cells #[.slice AI ni cI, .slice AR n cR, .int .i64 lp] 26)).alloc (.cells #[.slice none 0 0, .slice none 0 0, .int .i64 0] 26)) wx g iv ov lp t.init [] [])
  case first =>
    have hxd : Below ((w.alloc (.cells #[.slice AI ni cI, .slice AR n cR, .int .i64 lp] 26)).alloc (.cells #[.slice none 0 0, .slice none 0 0, .int .i64 0] 26)).heap.size ((w.alloc (.cells #[.slice AI ni cI, .slice AR n cR, .int .i64 lp] 26)).alloc (.cells #[.slice none 0 0, .slice none 0 0, .int .i64 0] 26)) ((w.alloc (.cells #[.slice AI ni cI, .slice AR n cR, .int .i64 lp] 26)).alloc (.cells #[.slice none 0 0, .slice none 0 0, .int .i64 0] 26)).drew := HX.out.drew
    have HXD := Lib.hid hxd
    have HOE1 : Hid ((((w.alloc (.cells #[.slice AI ni cI, .slice AR n cR, .int .i64 lp] 26)).alloc (.cells #[.slice none 0 0, .slice none 0 0, .int .i64 0] 26)).drew.alloc (.cells #[] 4)).ownsRow ((w.alloc (.cells #[.slice AI ni cI, .slice AR n cR, .int .i64 lp] 26)).alloc (.cells #[.slice none 0 0, .slice none 0 0, .int .i64 0] 26)).heap.size 4 1 (.slice (some ⟨w.heap.size + 1 + 1, 0, none⟩) 0 0) 0 []) := Lib.hid (by have := World.ownsRow_made (base := ((w.alloc (.cells #[.slice AI ni cI, .slice AR n cR, .int .i64 lp] 26)).alloc (.cells #[.slice none 0 0, .slice none 0 0, .int .i64 0] 26)).heap.size) (e := 4) (size := 1) ((w.alloc (.cells #[.slice AI ni cI, .slice AR n cR, .int .i64 lp] 26)).alloc (.cells #[.slice none 0 0, .slice none 0 0, .int .i64 0] 26)).drew #[] 0 (Nat.le_refl _) (by simp [maxLen]) rfl; simpa using this)
    have HOE2 : Hid (((((w.alloc (.cells #[.slice AI ni cI, .slice AR n cR, .int .i64 lp] 26)).alloc (.cells #[.slice none 0 0, .slice none 0 0, .int .i64 0] 26)).drew.alloc (.cells #[.slice none 0 0, .slice none 0 0, .int .i64 0] 26)).alloc (.cells #[] 4)).ownsRow ((w.alloc (.cells #[.slice AI ni cI, .slice AR n cR, .int .i64 lp] 26)).alloc (.cells #[.slice none 0 0, .slice none 0 0, .int .i64 0] 26)).heap.size 4 1 (.slice (some ⟨w.heap.size + 1 + 1 + 1, 0, none⟩) 0 0) 0 []) := Lib.hid (by have := World.ownsRow_made (base := ((w.alloc (.cells #[.slice AI ni cI, .slice AR n cR, .int .i64 lp] 26)).alloc (.cells #[.slice none 0 0, .slice none 0 0, .int .i64 0] 26)).heap.size) (e := 4) (size := 1) (((w.alloc (.cells #[.slice AI ni cI, .slice AR n cR, .int .i64 lp] 26)).alloc (.cells #[.slice none 0 0, .slice none 0 0, .int .i64 0] 26)).drew.alloc (.cells #[.slice none 0 0, .slice none 0 0, .int .i64 0] 26)) #[] 0 (by simp) (by simp [maxLen]) rfl; simpa using this)
    have HRDS : Hid (∀ wx, Below ((w.alloc (.cells #[.slice AI ni cI, .slice AR n cR, .int .i64 lp] 26)).alloc (.cells #[.slice none 0 0, .slice none 0 0, .int .i64 0] 26)).heap.size ((w.alloc (.cells #[.slice AI ni cI, .slice AR n cR, .int .i64 lp] 26)).alloc (.cells #[.slice none 0 0, .slice none 0 0, .int .i64 0] 26)) wx → Reads wx w.heap.size 1 AI ni (t.init.flatMap encO) ∧ wx.cell? ⟨w.heap.size, 0, none⟩ = some (.slice AI ni cI) ∧ wx.cell? ⟨w.heap.size, 2, none⟩ = some (.int .i64 lp)) := Lib.hid (fun wx hb => ⟨HIR.out.below (HALL.out _ hb).2.2, (HALL.out _ hb).1.cell 0, (HALL.out _ hb).1.cell 2⟩)
    have e0 := (HRDS.out _ HXD.out).2.1
    have e1 := (HRDS.out _ HXD.out).2.2
    have e4 := (HRDS.out _ (HXD.out.alloc (Nat.le_refl _) (.cells #[] 4))).2.1
    have e5 := (HRDS.out _ (HXD.out.alloc (Nat.le_refl _) (.cells #[] 4))).2.2
    have e6 := (HRDS.out _ (HXD.out.alloc (Nat.le_refl _) (.cells #[.slice none 0 0, .slice none 0 0, .int .i64 0] 26))).2.1
    have e7 := (HRDS.out _ (HXD.out.alloc (Nat.le_refl _) (.cells #[.slice none 0 0, .slice none 0 0, .int .i64 0] 26))).2.2
    have e10 := (HRDS.out _ ((HXD.out.alloc (Nat.le_refl _) (.cells #[] 4)).alloc (by simp) (.cells #[.slice none 0 0, .slice none 0 0, .int .i64 0] 26))).2.1
    have e11 := (HRDS.out _ ((HXD.out.alloc (Nat.le_refl _) (.cells #[] 4)).alloc (by simp) (.cells #[.slice none 0 0, .slice none 0 0, .int .i64 0] 26))).2.2
    have e12 := (HRDS.out _ ((HXD.out.alloc (Nat.le_refl _) (.cells #[.slice none 0 0, .slice none 0 0, .int .i64 0] 26)).alloc (by simp) (.cells #[] 4))).2.1
    have e13 := (HRDS.out _ ((HXD.out.alloc (Nat.le_refl _) (.cells #[.slice none 0 0, .slice none 0 0, .int .i64 0] 26)).alloc (by simp) (.cells #[] 4))).2.2
    clear hxd
    go_region_law ((first
        | (refine step_append_any _ rfl (.tmp 5) (.tmp 7) _ rfl ((w.alloc (.cells #[.slice AI ni cI, .slice AR n cR, .int .i64 lp] 26)).alloc (.cells #[.slice none 0 0, .slice none 0 0, .int .i64 0] 26)).heap.size 4 i0 _ 1 1 Tryd.underlying23 HI0.out.1 HI0.out.2.1 HI0.out.2.2.1 HI0.out.2.2.2 rfl (by omega) (.slice (some ⟨w.heap.size + 1 + 1, 0, none⟩) 0 0) 0 [] (by simp [Act.eval]) (HOE1.out) w.heap.size AI ni cI (t.init.flatMap encO) (by simp [Act.eval]) ((HRDS.out _ (HXD.out.alloc (Nat.le_refl _) _)).1) (flat_one oneO t.init) (by simp only [maxLen]; omega) (by omega) (by first | (simp; done) | (simp; omega)) ?_; intro v1 w1 hown1 hg1 hat1; have HX1 := Lib.hid ((HXD.out.alloc (Nat.le_refl _) (.cells #[] 4)).grown hg1 (by simp) (fun k hk => (HOE1.out.lt k hk).1)); obtain ⟨A1, k1, he1⟩ := own_slice1 hown1; subst he1; have HOS : Hid (w1.ownsRow ((w.alloc (.cells #[.slice AI ni cI, .slice AR n cR, .int .i64 lp] 26)).alloc (.cells #[.slice none 0 0, .slice none 0 0, .int .i64 0] 26)).heap.size 4 1 (.slice A1 ni k1) t.init.length (t.init.map Value.bool)) := Lib.hid (by have h9 := hown1; rw [flat_bools] at h9; rw [HN.out.1]; simpa using h9); have e2 := (HRDS.out _ HX1.out).2.1; have e3 := (HRDS.out _ HX1.out).2.2; have e8 := (HRDS.out _ (HX1.out.alloc HX1.out.size (.cells #[.slice none 0 0, .slice none 0 0, .int .i64 0] 26))).2.1; have e9 := (HRDS.out _ (HX1.out.alloc HX1.out.size (.cells #[.slice none 0 0, .slice none 0 0, .int .i64 0] 26))).2.2; clear hown1 hg1 hat1)
        | (refine step_append_any _ rfl (.tmp 5) (.tmp 7) _ rfl ((w.alloc (.cells #[.slice AI ni cI, .slice AR n cR, .int .i64 lp] 26)).alloc (.cells #[.slice none 0 0, .slice none 0 0, .int .i64 0] 26)).heap.size 4 i0 _ 1 1 Tryd.underlying23 HI0.out.1 HI0.out.2.1 HI0.out.2.2.1 HI0.out.2.2.2 rfl (by omega) (.slice (some ⟨w.heap.size + 1 + 1, 0, none⟩) 0 0) 0 [] (by simp [Act.eval]) (HOE1.out.alloc _) w.heap.size AI ni cI (t.init.flatMap encO) (by simp [Act.eval]) ((HRDS.out _ ((HXD.out.alloc (Nat.le_refl _) _).alloc (by simp) _)).1) (flat_one oneO t.init) (by simp only [maxLen]; omega) (by omega) (by first | (simp; done) | (simp; omega)) ?_; intro v1 w1 hown1 hg1 hat1; have hmb : Blk w1 (w.heap.size + 1 + 1 + 1) 26 #[.slice none 0 0, .slice none 0 0, .int .i64 0] := (by have h9 := (Blk.new (((w.alloc (.cells #[.slice AI ni cI, .slice AR n cR, .int .i64 lp] 26)).alloc (.cells #[.slice none 0 0, .slice none 0 0, .int .i64 0] 26)).drew.alloc (.cells #[] 4)) 26 #[.slice none 0 0, .slice none 0 0, .int .i64 0]).grown hg1 (by simp [Value.ownBlock]); simpa using h9); have HMB := Lib.hid hmb; have HML : Hid (((w.alloc (.cells #[.slice AI ni cI, .slice AR n cR, .int .i64 lp] 26)).alloc (.cells #[.slice none 0 0, .slice none 0 0, .int .i64 0] 26)).heap.size ≤ w.heap.size + 1 + 1 + 1) := Lib.hid (by first | (simp; done) | (simp; omega)); have k0 := hmb.cell 0; have k1' := hmb.cell 1; have k2 := hmb.cell 2; have k4 := hmb.frozen 0; have k5 := hmb.frozen 1; have k6 := hmb.frozen 2; simp only [List.getElem?_toArray, List.getElem?_cons_zero, List.getElem?_cons_succ] at k0 k1' k2; clear hmb; have HX1 := Lib.hid (((HXD.out.alloc (Nat.le_refl _) (.cells #[] 4)).alloc (by simp) (.cells #[.slice none 0 0, .slice none 0 0, .int .i64 0] 26)).grown hg1 (by first | (simp; done) | (simp; omega)) (fun k hk => ((HOE1.out.alloc (.cells #[.slice none 0 0, .slice none 0 0, .int .i64 0] 26)).lt k hk).1)); obtain ⟨A1, k1, he1⟩ := own_slice1 hown1; subst he1; have HOS : Hid (w1.ownsRow ((w.alloc (.cells #[.slice AI ni cI, .slice AR n cR, .int .i64 lp] 26)).alloc (.cells #[.slice none 0 0, .slice none 0 0, .int .i64 0] 26)).heap.size 4 1 (.slice A1 ni k1) t.init.length (t.init.map Value.bool)) := Lib.hid (by have h9 := hown1; rw [flat_bools] at h9; rw [HN.out.1]; simpa using h9); have e2 := (HRDS.out _ HX1.out).2.1; have e3 := (HRDS.out _ HX1.out).2.2; have e8 := (HRDS.out _ (HX1.out.alloc HX1.out.size (.cells #[.slice none 0 0, .slice none 0 0, .int .i64 0] 26))).2.1; have e9 := (HRDS.out _ (HX1.out.alloc HX1.out.size (.cells #[.slice none 0 0, .slice none 0 0, .int .i64 0] 26))).2.2; clear hown1 hg1 hat1)
        | (refine step_append_any _ rfl (.tmp 5) (.tmp 7) _ rfl ((w.alloc (.cells #[.slice AI ni cI, .slice AR n cR, .int .i64 lp] 26)).alloc (.cells #[.slice none 0 0, .slice none 0 0, .int .i64 0] 26)).heap.size 4 i0 _ 1 1 Tryd.underlying23 HI0.out.1 HI0.out.2.1 HI0.out.2.2.1 HI0.out.2.2.2 rfl (by omega) (.slice (some ⟨w.heap.size + 1 + 1 + 1, 0, none⟩) 0 0) 0 [] (by simp [Act.eval]) (HOE2.out) w.heap.size AI ni cI (t.init.flatMap encO) (by simp [Act.eval]) ((HRDS.out _ ((HXD.out.alloc (Nat.le_refl _) _).alloc (by simp) _)).1) (flat_one oneO t.init) (by simp only [maxLen]; omega) (by omega) (by first | (simp; done) | (simp; omega)) ?_; intro v1 w1 hown1 hg1 hat1; have hmb : Blk w1 (w.heap.size + 1 + 1) 26 #[.slice none 0 0, .slice none 0 0, .int .i64 0] := (by have h9 := ((Blk.new ((w.alloc (.cells #[.slice AI ni cI, .slice AR n cR, .int .i64 lp] 26)).alloc (.cells #[.slice none 0 0, .slice none 0 0, .int .i64 0] 26)).drew 26 #[.slice none 0 0, .slice none 0 0, .int .i64 0]).alloc (.cells #[] 4)).grown hg1 (by simp [Value.ownBlock]); simpa using h9); have HMB := Lib.hid hmb; have HML : Hid (((w.alloc (.cells #[.slice AI ni cI, .slice AR n cR, .int .i64 lp] 26)).alloc (.cells #[.slice none 0 0, .slice none 0 0, .int .i64 0] 26)).heap.size ≤ w.heap.size + 1 + 1) := Lib.hid (by first | (simp; done) | (simp; omega)); have k0 := hmb.cell 0; have k1' := hmb.cell 1; have k2 := hmb.cell 2; have k4 := hmb.frozen 0; have k5 := hmb.frozen 1; have k6 := hmb.frozen 2; simp only [List.getElem?_toArray, List.getElem?_cons_zero, List.getElem?_cons_succ] at k0 k1' k2; clear hmb; have HX1 := Lib.hid (((HXD.out.alloc (Nat.le_refl _) (.cells #[.slice none 0 0, .slice none 0 0, .int .i64 0] 26)).alloc (by simp) (.cells #[] 4)).grown hg1 (by first | (simp; done) | (simp; omega)) (fun k hk => (HOE2.out.lt k hk).1)); obtain ⟨A1, k1, he1⟩ := own_slice1 hown1; subst he1; have HOS : Hid (w1.ownsRow ((w.alloc (.cells #[.slice AI ni cI, .slice AR n cR, .int .i64 lp] 26)).alloc (.cells #[.slice none 0 0, .slice none 0 0, .int .i64 0] 26)).heap.size 4 1 (.slice A1 ni k1) t.init.length (t.init.map Value.bool)) := Lib.hid (by have h9 := hown1; rw [flat_bools] at h9; rw [HN.out.1]; simpa using h9); have e2 := (HRDS.out _ HX1.out).2.1; have e3 := (HRDS.out _ HX1.out).2.2; have e8 := (HRDS.out _ (HX1.out.alloc HX1.out.size (.cells #[.slice none 0 0, .slice none 0 0, .int .i64 0] 26))).2.1; have e9 := (HRDS.out _ (HX1.out.alloc HX1.out.size (.cells #[.slice none 0 0, .slice none 0 0, .int .i64 0] 26))).2.2; clear hown1 hg1 hat1)))
    all_goals (
      go_wp2_with fail
      go_meet)
    all_goals (
      first
        | exact ⟨_, .slice A1 ni k1, .slice none 0 0, rfl, CT.new1 HX1.out HOS.out⟩
        | exact ⟨_, .slice A1 ni k1, .slice none 0 0, rfl, CT.new2 HX1.out HMB.out HML.out HOS.out⟩)
  case rest =>
    obtain ⟨g, iv, ov, rfl, hct⟩ := hcut
    have hW0s : w.heap.size ≤ ((w.alloc (.cells #[.slice AI ni cI, .slice AR n cR, .int .i64 lp] 26)).alloc (.cells #[.slice none 0 0, .slice none 0 0, .int .i64 0] 26)).heap.size ∧ w.heap.size + 1 < ((w.alloc (.cells #[.slice AI ni cI, .slice AR n cR, .int .i64 lp] 26)).alloc (.cells #[.slice none 0 0, .slice none 0 0, .int .i64 0] 26)).heap.size := by simp; omega
    generalize ((w.alloc (.cells #[.slice AI ni cI, .slice AR n cR, .int .i64 lp] 26)).alloc (.cells #[.slice none 0 0, .slice none 0 0, .int .i64 0] 26)) = W0 at HALL hct hW0s
    have HWS := Lib.hid hW0s
    have HC0 := Lib.hid hct
    obtain ⟨iA, ic, hie⟩ := own_slice1 hct.i
    subst hie
    clear hW0s hct HX
    go_wp2
    go_loopg [4] n (fun j iv wr => ∃ (k : Nat) (ow : Value) (us : List Value), k ≤ n ∧ iv = .int .i64 k ∧ j = n - k ∧ CT W0 wr g (.slice iA t.init.length ic) ow lp t.init us (t.rows.take k))
    case atStart => exact ⟨0, ov, [], Nat.zero_le _, rfl, rfl, by simpa using HC0.out⟩
    case round =>
      obtain ⟨k, ow, us, hk, rfl, hgk, hct⟩ := hrel
      subst hgk
      have hul : us.length = k := by rw [hct.len, List.length_take, HN.out.2.1]; omega
      have HUL := Lib.hid hul
      obtain ⟨oA, oc, hoe⟩ := own_slice1 hct.o
      rw [hul] at hoe
      subst hoe
      have HC := Lib.hid hct
      clear HC0 hct hul
      have x1 := (HALL.out _ HC.out.below).1.cell 1
      have m1 := HC.out.blk.cell 1
      have m2 := HC.out.blk.frozen 1
      have m3 := HC.out.blk.lt
      simp only [List.getElem?_toArray, List.getElem?_cons_zero, List.getElem?_cons_succ] at x1 m1
      by_cases hlt : k < n
      · obtain ⟨row, hz⟩ : ∃ row, t.rows[k]? = some row := ⟨_, List.getElem?_eq_getElem (by rw [HN.out.2.1]; exact hlt)⟩
        obtain ⟨rb, ro, u, e, hrb, hu, hru⟩ := HRR.out k row hz
        subst e
        have hrl := HRS.out row (List.mem_of_getElem? hz)
        obtain ⟨uA, uc, hue, hur⟩ := hru.reads lenO (by omega)
        subst hue
        obtain ⟨un, hun⟩ : ∃ un, row.length = un := ⟨_, rfl⟩
        rw [hun] at hu hur hrl
        have HUN := Lib.hid hun
        have HUR := Lib.hid hur
        have HTK : Hid (t.rows.take (k + 1) = t.rows.take k ++ [row]) := Lib.hid (by rw [List.take_add_one, hz]; rfl)
        have HSV : Hid (∀ w', Below wr.heap.size wr w' → w'.cell? ⟨g, 1, none⟩ = some (.slice oA k oc) ∧ w'.cell? ⟨w.heap.size, 1, none⟩ = some (.slice (some ⟨rb, ro, none⟩) n cR) ∧ w'.cell? ⟨rb, ro + k, none⟩ = some (.slice uA un uc)) := Lib.hid (fun wz hb => ⟨(hb.cell (p := ⟨g, 1, none⟩) HC.out.blk.lt).trans (HC.out.blk.cell 1), (HALL.out _ (bt HC.out.below (Nat.le_refl _) hb)).1.cell 1, ((HALL.out _ (bt HC.out.below (Nat.le_refl _) hb)).2.2.cell (p := ⟨rb, ro + k, none⟩) hrb).trans hu⟩)
        have hk0 : (0 : Int) ≤ (k : Int) := by omega
        have hk1 : (k : Int) < (n : Int) := by omega
        have HBD : Hid (Below wr.heap.size wr wr.drew) := Lib.hid (Below.refl _ _).drew
        have HOE : Hid ((wr.drew.alloc (.cells #[] 4)).ownsRow wr.heap.size 4 1 (.slice (some ⟨wr.heap.size, 0, none⟩) 0 0) 0 []) := Lib.hid (World.ownsRow_made wr.drew #[] 0 (Nat.le_refl _) (by simp [maxLen]) rfl)
        have HRD := Lib.hid (HUR.out.below ((HALL.out _ (bt HC.out.below (Nat.le_refl _) (HBD.out.alloc (Nat.le_refl _) (.cells #[] 4)))).2.2))
        clear hz hu hru hur hrb hun
        go_wp2
        obtain ⟨f1, f2, f3⟩ := HSV.out _ HBD.out
        obtain ⟨f4, f5, f6⟩ := HSV.out _ (HBD.out.alloc (Nat.le_refl _) (.cells #[] 4))
        obtain ⟨g4, g5, g6⟩ := HSV.out _ ((Below.refl wr.heap.size wr).alloc (Nat.le_refl _) (.cells #[] 4))
        obtain ⟨g7, g8, g9⟩ := HSV.out _ ((Below.refl wr.heap.size wr).alloc (Nat.le_refl _) (.cells #[] 4)).drew
        go_region_law ((first
            | (refine step_append_any _ rfl (.tmp 21) (.tmp 26) _ rfl wr.heap.size 4 i0 _ 1 1 Tryd.underlying23 HI0.out.1 HI0.out.2.1 HI0.out.2.2.1 HI0.out.2.2.2 rfl (by omega) (.slice (some ⟨wr.heap.size, 0, none⟩) 0 0) 0 [] (by simp [Act.eval]) HOE.out w.heap.size uA un uc (row.flatMap encO) (by simp [Act.eval]) HRD.out (flat_one oneO row) (by simp only [maxLen]; omega) (by omega) (by first | (simp; done) | (simp; omega)) ?_; intro v1 w5 hown1 hg1 hat1; have HY := Lib.hid ((HBD.out.alloc (Nat.le_refl _) (.cells #[] 4)).grown hg1 (by first | (simp; done) | (simp; omega)) (fun q hq => (HOE.out.lt q hq).1)); obtain ⟨A1, k1, he1⟩ := own_slice1 hown1; subst he1; have HOS : Hid (w5.ownsRow wr.heap.size 4 1 (.slice A1 un k1) row.length (row.map Value.bool)) := Lib.hid (by have h9 := hown1; rw [flat_bools] at h9; rw [HUN.out]; simpa using h9); obtain ⟨f7, f8, f9⟩ := HSV.out _ HY.out; obtain ⟨fa, fb, fc⟩ := HSV.out _ (HY.out.alloc HY.out.size (.cells #[.slice A1 un k1] 23)); clear hown1 hg1 hat1)
            | (refine step_append_any _ rfl (.tmp 20) (.tmp 28) _ rfl W0.heap.size 23 iB _ 1 24 Tryd.underlying24 HIB.out.1 HIB.out.2.1 HIB.out.2.2.1 HIB.out.2.2.2 rfl (by omega) (.slice oA k oc) k us (by simp [Act.eval]) (by have h9 := own_below HC.out.o HY.out; rw [HUL.out] at h9; exact h9.alloc _) (w5.heap.size + 1) (some ⟨w5.heap.size, 0, none⟩) 1 1 [.slice A1 un k1] (by simp [Act.eval]) (reads_one _ _ _) (by simp [Value.oneCell']) (by simp only [maxLen]; omega) (by omega) (by have := HC.out.below.size; have := HY.out.size; first | (simp; done) | (simp; omega)) ?_; intro v3 w7 hown3 hg3 hat3; obtain ⟨A3, k3, he3⟩ := own_slice1 hown3; subst he3; obtain ⟨hbk3, hct3⟩ := HC.out.put HY.out HOS.out _ (by rw [HUL.out]; exact hown3) hg3; have HC3 := Lib.hid hct3; have q0 := hbk3.cell 1; have q1 := hbk3.frozen 1; have q2 := hbk3.lt; simp only [List.getElem?_toArray, List.getElem?_cons_zero, List.getElem?_cons_succ] at q0; clear hown3 hg3 hat3 hbk3 hct3)))
        all_goals (
          go_wp2
          go_roundg (n - (k + 1))
          case measure => omega
          case rel => exact ⟨k + 1, _, _, by omega, by go_num, rfl, by rw [HTK.out]; exact HC3.out⟩)
      · have hke : k = n := by omega
        have hct : CT W0 wr g (.slice iA t.init.length ic) (.slice oA k oc) lp t.init us t.rows := by
          have h9 := HC.out
          rwa [List.take_of_length_le (by rw [HN.out.2.1]; omega)] at h9
        have hbk := (HALL.out _ HC.out.below).2.1
        have hfi := hct.fin hbk (.slice iA t.init.length ic) (.slice oA k oc) (.int .i64 lp)
        have hbf := ((((HALL.out _ HC.out.below).2.2).setCell (p := ⟨w.heap.size + 1, 0, none⟩) (by simp) (.slice iA t.init.length ic)).setCell (p := ⟨w.heap.size + 1, 1, none⟩) (by simp) (.slice oA k oc)).setCell (p := ⟨w.heap.size + 1, 2, none⟩) (by simp) (.int .i64 lp)
        have hmb := Blk.set_ (Blk.set_ (Blk.set_ hbk 0 (.slice iA t.init.length ic)) 1 (.slice oA k oc)) 2 (.int .i64 lp)
        have q0 := hbk.cell 0
        have q1 := hbk.cell 1
        have q2 := hbk.cell 2
        have q4 := hbk.frozen 0
        have q5 := hbk.frozen 1
        have q6 := hbk.frozen 2
        have q8 := hbk.lt
        have m0 := HC.out.blk.cell 0
        have m4 := HC.out.blk.cell 2
        simp only [List.getElem?_toArray, List.getElem?_cons_zero, List.getElem?_cons_succ] at q0 q1 q2 m0 m4
        obtain ⟨X, hX⟩ : ∃ X, X = (((wr.setCell ⟨w.heap.size + 1, 0, none⟩ (.slice iA t.init.length ic)).setCell ⟨w.heap.size + 1, 1, none⟩ (.slice oA k oc)).setCell ⟨w.heap.size + 1, 2, none⟩ (.int .i64 lp)) := ⟨_, rfl⟩
        rw [← hX] at hfi hbf hmb
        have z0 : X.cell? ⟨w.heap.size + 1, 0, none⟩ = some (.slice iA t.init.length ic) := by rw [hmb.cell]; rfl
        have z1 : X.cell? ⟨w.heap.size + 1, 1, none⟩ = some (.slice oA k oc) := by rw [hmb.cell]; rfl
        have z2 : X.cell? ⟨w.heap.size + 1, 2, none⟩ = some (.int .i64 lp) := by rw [hmb.cell]; rfl
        have HFIN := Lib.hid (And.intro hbf hfi)
        have HXX := Lib.hid hX
        clear hbk hfi hbf hmb hX hct hke
        go_wp2
        rw [← HXX.out]
        refine bodyPost_ret (v := .agg #[.slice iA t.init.length ic, .slice oA k oc, .int .i64 lp]) (by simp [results, Tryd.results6, go_sem, z0, z1, z2]) rfl ?_
        exact ⟨⟨_, _⟩, rfl, HFIN.out.1, _, HFIN.out.2⟩
end Go.Proofs.YtjbglgmbnjdhcaaDoor

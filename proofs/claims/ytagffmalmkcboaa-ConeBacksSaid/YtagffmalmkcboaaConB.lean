/- Cone: ConeBacks: the walk of the statement. -/
import Derived.Test.YtagffmalmkcboaaRunC
import Derived.Test.YtagffmalmkcboaaSpoO
import Derived.Test.YtagffmalmkcboaaConRL
import Derived.Test.YtagffmalmkcboaaConRT
import Derived.Test.YtagffmalmkcboaaKeptC
import Derived.Test.YtagffmalmkcboaaConK
import Derived.Test.YtagffmalmkcboaaWesM
namespace Go.Proofs.Ytagffmalmkcboaa
open Go.RowKit

theorem setCell_ne {w : World} {g b i : Nat} {v : Value} (h : b ≠ g) : (w.setCell ⟨g, i, none⟩ v).heap[b]? = w.heap[b]? := by
  simp only [World.setCell, Array.getElem?_modify]
  rw [if_neg (fun e => h e.symm)]
def KeepB (w w' : World) : Prop := ∀ g n cap, BoolBlk w g n cap → BoolBlk w' g n cap
theorem KeepB.refl (w : World) : KeepB w w := fun _ _ _ h => h
theorem KeepB.trans {a b c : World} (h : KeepB a b) (h2 : KeepB b c) : KeepB a c := fun g n cap h0 => h2 g n cap (h g n cap h0)
theorem KeepB.set_ {w wr : World} (h : KeepB w wr) (g i : Nat) (x : Bool) : KeepB w (wr.setCell ⟨g, i, none⟩ (.bool x)) := fun b n cap h0 => by
  have h1 := h b n cap h0
  by_cases e : b = g
  · subst e; exact h1.set_ i x
  · obtain ⟨cur, hg, r⟩ := h1
    exact ⟨cur, (setCell_ne e).trans hg, r⟩
def Bol (w : World) (v : Value) (n : Nat) : Prop := (v = .slice none 0 0 ∧ n = 0) ∨ ∃ g cap, v = .slice (some ⟨g, 0, none⟩) n cap ∧ n ≤ cap ∧ cap ≤ maxLen ∧ BoolBlk w g n cap
theorem Bol.keep {w w' : World} {v : Value} {n : Nat} (h : Bol w v n) (hk : KeepB w w') : Bol w' v n := by
  rcases h with h | ⟨g, cap, e, h1, h2, h3⟩
  · exact .inl h
  · exact .inr ⟨g, cap, e, h1, h2, hk _ _ _ h3⟩
theorem bol_own {w : World} {B n : Nat} {v : Value} {zs : List Bool} (hz : zs.length = n) (h : w.ownsRow B 4 1 v n (zs.map Value.bool)) : Bol w v n := by
  rcases own_blkO hz h with h | ⟨g, cap, e, _, h1, h2, h3⟩
  · exact .inl h
  · exact .inr ⟨g, cap, e, h1, h2, h3⟩
set_option maxHeartbeats 1000000 in
set_option maxRecDepth 100000 in
theorem SpoilB_any (w : World) (n : Nat) (v : Value) (h : Bol w v n) : Calls Try.prog 44 #[v] w fun e w' => e = .returned (.tuple #[]) ∧ w.grownBy w' v.ownBlock ∧ KeepB w w' := by
  rcases h with ⟨rfl, rfl⟩ | ⟨g, cap, rfl, h1, h2, hI⟩
  · go_enter Try.func44, Try.ntmps44
    go_wp2
    go_loop [2] (fun i => i = .int .i64 0) (fun i => (intOf i).toNat)
    case atStart => exact rfl
    case round =>
      subst hrel
      go_wp2
      go_end0
      exact ⟨rfl, World.grownBy.refl w _, KeepB.refl w⟩
  · unfold maxLen at h2
    have HI := Lib.hid hI
    clear hI
    go_enter Try.func44, Try.ntmps44
    go_wp2
    go_loopw [2] (fun i wr => ∃ k : Nat, k ≤ n ∧ i = .int .i64 k ∧ BoolBlk wr g n cap ∧ w.grownBy wr (some g) ∧ KeepB w wr) (fun i _ => n - (intOf i).toNat)
    case atStart => exact ⟨0, Nat.zero_le _, rfl, HI.out, World.grownBy.refl w _, KeepB.refl w⟩
    case round =>
      obtain ⟨k, hk, rfl, hib, hbw, hkb⟩ := hrel
      have HIB := Lib.hid hib
      have HKB := Lib.hid hkb
      clear hib hkb
      by_cases hlt : k < n
      · obtain ⟨u, hu⟩ := HIB.out.at_ k hlt
        have hf := HIB.out.free k
        go_wp2
        go_roundw
        case rel => exact ⟨k + 1, by omega, by go_num, HIB.out.set_ _ _, only_setL hbw _ _, HKB.out.set_ _ _ _⟩
        case measure => simp [intOf]; omega
      · have : k = n := by omega
        subst this
        go_wp2
        go_end0
        exact ⟨rfl, hbw, HKB.out⟩
structure SpR (B E : Nat) (X wr : World) : Prop where
  os : wr.os = X.os
  tape : wr.tape = X.tape
  output : wr.output = X.output
  size : X.heap.size ≤ wr.heap.size
  block : ∀ k, k < X.heap.size → (k < B ∨ E ≤ k ∨ ∃ cs fr, X.heap[k]? = some (.cells cs 46 fr)) → wr.heap[k]? = X.heap[k]?
  bol : KeepB X wr
theorem SpR.refl (B E : Nat) (X : World) : SpR B E X X := ⟨rfl, rfl, rfl, Nat.le_refl _, fun _ _ _ => rfl, KeepB.refl X⟩
theorem SpR.step {B E : Nat} {X wr w' : World} {v : Value} {n : Nat} (h : SpR B E X wr) (hv : Bol wr v n) (hb : ∀ g, v.ownBlock = some g → B ≤ g ∧ g < E) (hg : wr.grownBy w' v.ownBlock) (hk : KeepB wr w') : SpR B E X w' := by
  refine ⟨hg.os.trans h.os, hg.tape.trans h.tape, hg.output.trans h.output, Nat.le_trans h.size hg.size, fun k hkk hc => ?_, h.bol.trans hk⟩
  refine (hg.block k (Nat.lt_of_lt_of_le hkk h.size) (fun e => ?_)).trans (h.block k hkk hc)
  have hbe := hb k e.symm
  rcases hc with hc | hc | ⟨cs, fr, hc⟩
  · omega
  · omega
  · rcases hv with ⟨rfl, _⟩ | ⟨g, cap, rfl, _, _, cur, hcur, _⟩
    · cases e
    · have e2 : k = g := by simpa [Value.ownBlock] using e
      subst e2
      rw [h.block k hkk (.inr (.inr ⟨cs, fr, hc⟩)), hc] at hcur
      injection hcur with hcur
      injection hcur with _ h9 _
      exact absurd h9 (by decide)
theorem SpR.below {B E : Nat} {w X w' : World} (hX : Below w.heap.size w X) (h : SpR B E X w') (_hE : E ≤ w.heap.size) : ∀ k, k < w.heap.size → (k < B ∨ E ≤ k) → w'.heap[k]? = w.heap[k]? := fun k hk hc =>
  (h.block k (Nat.lt_of_lt_of_le hk hX.size) (hc.elim .inl (fun h => .inr (.inl h)))).trans (hX.block k hk)
structure MidW (B E : Nat) (w w' : World) : Prop where
  os : w'.os = w.os
  tape : w'.tape = w.tape
  output : w'.output = w.output
  size : w.heap.size ≤ w'.heap.size
  block : ∀ k, k < w.heap.size → (k < B ∨ E ≤ k) → w'.heap[k]? = w.heap[k]?
set_option maxHeartbeats 4000000 in
set_option maxRecDepth 100000 in
theorem SpoilTrace_any (W0 w : World) (B : Nat) (U : TV) (t : Tr) (h : OwnT W0 B t U) (hw : Below W0.heap.size W0 w) :
    Calls Try.prog 23 #[U.val t.loop] w fun e w' => e = .returned (.tuple #[]) ∧ MidW B W0.heap.size w w' := by
  obtain ⟨us, hul, hor, hos⟩ := h.ex
  have hoi := h.i
  obtain ⟨AR, cR, eR⟩ := own_slice_k hor
  obtain ⟨AI, cI, eI⟩ := own_slice_k hoi
  have hgi := own_below hoi hw
  have hgr := own_below hor hw
  obtain ⟨Ui, Ur⟩ := U
  simp only at eR eI hor hoi hgi hgr
  subst eR eI
  have hX : Below w.heap.size w (w.alloc (.cells #[.slice AI t.init.length cI, .slice AR us.length cR, .int .i64 t.loop] 49)) := (Below.refl _ _).alloc (Nat.le_refl _) _
  have hB0 : Blk (w.alloc (.cells #[.slice AI t.init.length cI, .slice AR us.length cR, .int .i64 t.loop] 49)) w.heap.size 49 #[.slice AI t.init.length cI, .slice AR us.length cR, .int .i64 t.loop] := Blk.new w _ _
  have HWX := Lib.hid hX
  have HE : Hid (W0.heap.size ≤ w.heap.size) := Lib.hid hw.size
  have hrow : RowE 1 encV (w.alloc (.cells #[.slice AI t.init.length cI, .slice AR us.length cR, .int .i64 t.loop] 49)) (.slice AR us.length cR) us := own_rowe lenV (by rw [flat_vals]; exact own_below hgr hX)
  have HBI : Hid (Bol (w.alloc (.cells #[.slice AI t.init.length cI, .slice AR us.length cR, .int .i64 t.loop] 49)) (.slice AI t.init.length cI) t.init.length ∧ ∀ g, (Value.slice AI t.init.length cI).ownBlock = some g → B ≤ g ∧ g < W0.heap.size) := Lib.hid ⟨bol_own rfl (own_below hgi hX), fun g hg => hoi.lt g hg⟩
  have HBU : Hid (∀ (i : Nat) (u : Value), us[i]? = some u → ∃ n, Bol (w.alloc (.cells #[.slice AI t.init.length cI, .slice AR us.length cR, .int .i64 t.loop] 49)) u n ∧ ∀ g, u.ownBlock = some g → B ≤ g ∧ g < W0.heap.size) := Lib.hid (fun i u hu => by
    obtain ⟨zs, hz⟩ : ∃ zs, t.rows[i]? = some zs := ⟨_, List.getElem?_eq_getElem (by rw [← hul]; exact (List.getElem?_eq_some_iff.1 hu).1)⟩
    have ho := hos i u zs hu hz
    exact ⟨zs.length, bol_own rfl (own_below (own_below ho hw) hX), fun g hg => ho.lt g hg⟩)
  have HRB : Hid (∀ (i : Nat) (u : Value), us[i]? = some u → ∃ b off cs fr, AR = some ⟨b, off, none⟩ ∧ b < (w.alloc (.cells #[.slice AI t.init.length cI, .slice AR us.length cR, .int .i64 t.loop] 49)).heap.size ∧ (w.alloc (.cells #[.slice AI t.init.length cI, .slice AR us.length cR, .int .i64 t.loop] 49)).heap[b]? = some (.cells cs 46 fr) ∧ (w.alloc (.cells #[.slice AI t.init.length cI, .slice AR us.length cR, .int .i64 t.loop] 49)).cell? ⟨b, off + i, none⟩ = some u) := Lib.hid (fun i u hu => by
    obtain ⟨A, c, e, hc, hm, hr⟩ := hrow
    injection e with e1 e2 e3
    subst e1
    obtain ⟨b, off, e4, hlt, hcell⟩ := hr i u hu
    have hc0 := hcell 0 u rfl
    simp only [Nat.mul_one, Nat.add_zero] at hc0
    rcases (own_below hgr hX).2 with ⟨h1, h2⟩ | ⟨g, cap, cur, h1, _, h3, _⟩
    · injection h1 with h1
      rw [h1] at e4
      cases e4
    · injection h1 with h1
      rw [e4] at h1
      injection h1 with h1
      injection h1 with h5 h6
      subst h5
      exact ⟨b, off, cur, _, e4, hlt, h3, hc0⟩)
  have hrm : us.length ≤ maxLen := hrow.len
  unfold maxLen at hrm
  obtain ⟨n, hn⟩ : ∃ n, us.length = n := ⟨_, rfl⟩
  have hWX : (w.alloc (.cells #[.slice AI t.init.length cI, .slice AR us.length cR, .int .i64 t.loop] 49)).heap.size = w.heap.size + 1 := by simp
  clear hor hos hoi hgi hgr hX hrow h hul
  rw [hn] at HWX hB0 HBU HRB hWX hrm HBI ⊢
  go_enter Try.func23, Try.ntmps23
  go_upto_region 1 with (fail)
  obtain ⟨X, hXe⟩ : ∃ X, w.alloc (.cells #[.slice AI t.init.length cI, .slice AR n cR, .int .i64 t.loop] 49) = X := ⟨_, rfl⟩
  rw [hXe] at HWX hB0 HBI HBU HRB hWX ⊢
  obtain ⟨lp, hlp⟩ : ∃ l, t.loop = l := ⟨_, rfl⟩
  obtain ⟨ni, hni⟩ : ∃ l, t.init.length = l := ⟨_, rfl⟩
  rw [hlp, hni] at hB0
  rw [hni] at HBI
  have HBOX : Hid (∀ wr, SpR B W0.heap.size X wr → wr.cell? ⟨w.heap.size, 0, none⟩ = some (.slice AI ni cI) ∧ wr.cell? ⟨w.heap.size, 1, none⟩ = some (.slice AR n cR)) := Lib.hid (fun wr hr => by
    have h1 : Blk wr w.heap.size 49 #[.slice AI ni cI, .slice AR n cR, .int .i64 lp] := (hr.block _ (by omega) (.inr (.inl HE.out))).trans hB0
    exact ⟨h1.cell 0, h1.cell 1⟩)
  have HN := Lib.hid hn
  clear hXe hB0 hlp hni hWX hn
  obtain ⟨x0, x1⟩ := HBOX.out X (SpR.refl _ _ _)
  go_upto_region 2 with (go_at_call 44; refine (SpoilB_any _ _ _ HBI.out.1).mono ?_; rintro e w1 ⟨rfl, hg, hk⟩; have HR := Lib.hid ((SpR.refl B W0.heap.size X).step HBI.out.1 HBI.out.2 hg hk); clear hg hk x0 x1)
  go_wp2
  go_loopg [2] n (fun j iv wx => ∃ k : Nat, k ≤ n ∧ j = n - k ∧ iv = .int .i64 k ∧ SpR B W0.heap.size X wx)
  case atStart => exact ⟨0, Nat.zero_le _, rfl, rfl, HR.out⟩
  case round =>
    obtain ⟨k, hk, hgk, rfl, hsr⟩ := hrel
    subst hgk
    clear HR
    have HR := Lib.hid hsr
    clear hsr
    obtain ⟨x0, x1⟩ := HBOX.out _ HR.out
    by_cases hlt : k < n
    · obtain ⟨u, hu⟩ : ∃ u, us[k]? = some u := ⟨_, List.getElem?_eq_getElem (by rw [HN.out]; exact hlt)⟩
      obtain ⟨b, off, cs, fr, e, hbs, hbc, hcu⟩ := HRB.out k u hu
      subst e
      have d0 : wr.cell? ⟨b, off + k, none⟩ = some u := by
        rw [World.cell?_of_block (w := X) (HR.out.block b hbs (.inr (.inr ⟨cs, fr, hbc⟩)))]
        exact hcu
      obtain ⟨m, hm, hbd⟩ := HBU.out k u hu
      have HM := Lib.hid (And.intro (hm.keep HR.out.bol) hbd)
      have hk0 : (0 : Int) ≤ (k : Int) := by omega
      have hk1 : (k : Int) < (n : Int) := by omega
      clear hu hbs hbc hcu hm hbd
      go_upto_region 4 with (go_at_call 44; refine (SpoilB_any _ _ _ HM.out.1).mono ?_; rintro e w2 ⟨rfl, hg, hk⟩; have HR2 := Lib.hid (HR.out.step HM.out.1 HM.out.2 hg hk); clear hg hk d0 x0 x1)
      go_wp2
      go_roundg (n - (k + 1))
      case measure => omega
      case rel => exact ⟨k + 1, by omega, rfl, by go_num, HR2.out⟩
    · have hk1 : ¬ (k : Int) < (n : Int) := by omega
      go_wp2
      go_end0
      exact ⟨rfl, HR.out.os.trans HWX.out.os, HR.out.tape.trans HWX.out.tape, HR.out.output.trans HWX.out.output, Nat.le_trans HWX.out.size HR.out.size, HR.out.below HWX.out HE.out⟩
open Go.RowKit

set_option maxHeartbeats 8000000 in
set_option maxRecDepth 100000 in
theorem SameTrace_any (w : World) (U U2 : TV) (t : Tr) (h : t.In w U) (h2 : t.In w U2) :
    Calls Try.prog 21 #[U.val t.loop, U2.val t.loop] w fun e w' => e = .returned (.bool true) ∧ Below w.heap.size w w' := by
  have hall : ∀ wz, Below ((w.alloc (.cells (U.cells t.loop) 49)).alloc (.cells (U2.cells t.loop) 49)).heap.size ((w.alloc (.cells (U.cells t.loop) 49)).alloc (.cells (U2.cells t.loop) 49)) wz →
      Blk wz w.heap.size 49 (U.cells t.loop) ∧ Blk wz (w.heap.size + 1) 49 (U2.cells t.loop) ∧ Below w.heap.size w wz := fun wz hb => by
    have h1 : Below w.heap.size w wz := (((Below.refl w.heap.size w).alloc (Nat.le_refl _) _).alloc (by simp) _).trans (hb.mono (by simp; omega))
    have e1 := ((Blk.new w 49 (U.cells t.loop)).alloc (.cells (U2.cells t.loop) 49)).below hb (by simp; omega)
    have e2 := (Blk.new (w.alloc (.cells (U.cells t.loop) 49)) 49 (U2.cells t.loop)).below hb (by simp)
    rw [show (w.alloc (.cells (U.cells t.loop) 49)).heap.size = w.heap.size + 1 by simp] at e2
    exact ⟨e1, e2, h1⟩
  have hx0 : Below ((w.alloc (.cells (U.cells t.loop) 49)).alloc (.cells (U2.cells t.loop) 49)).heap.size ((w.alloc (.cells (U.cells t.loop) 49)).alloc (.cells (U2.cells t.loop) 49)) ((w.alloc (.cells (U.cells t.loop) 49)).alloc (.cells (U2.cells t.loop) 49)) := Below.refl _ _
  have HSA := Lib.hid (fun (wx : World) (v u : Value) (zs : List Bool) (hx : RowE 1 encO wx v zs) (hy : RowE 1 encO wx u zs) => (show Calls Try.prog 43 #[v, u] wx fun e w' => e = .returned (.bool true) ∧ Below wx.heap.size wx w' from by have := SameO_any wx v u zs zs hx hy; rwa [decide_eq_true (rfl : zs = zs)] at this))
  have HII := Lib.hid (And.intro h.i h2.i)
  obtain ⟨AR, cR, eR, _, hrr⟩ := h.r.at_
  obtain ⟨BR, dR, fR, hrm, hss⟩ := h2.r.at_
  obtain ⟨AI, ni, cI, eI⟩ := slO_form h.i
  obtain ⟨BI, nj, dI, fI⟩ := slO_form h2.i
  obtain ⟨Ui, Ur⟩ := U
  obtain ⟨Ti, Tr'⟩ := U2
  simp only at eR fR eI fI
  subst eR fR eI fI
  obtain ⟨n, hn⟩ : ∃ n, t.rows.length = n := ⟨_, rfl⟩
  obtain ⟨lp, hlp⟩ : ∃ lp, t.loop = lp := ⟨_, rfl⟩
  rw [hn, hlp] at hall hx0
  rw [hn] at HII hrm
  rw [hn, hlp]
  have HALL := Lib.hid hall
  have HX := Lib.hid hx0
  have HRR := Lib.hid hrr
  have HSS := Lib.hid hss
  have HN := Lib.hid hn
  unfold maxLen at hrm
  clear h h2 hall hx0 hrr hss hn hlp
  obtain ⟨x0, x1, x2⟩ := trio_of (HALL.out _ HX.out).1
  obtain ⟨y0, y1, y2⟩ := trio_of (HALL.out _ HX.out).2.1
  have q1 : (lp != lp) = false := by simp
  have q2 : ((n : Int) != (n : Int)) = false := by simp
  go_enter Try.func21, Try.ntmps21
  go_wp2_with (go_at_call 43; go_loud (refine (HSA.out _ _ _ t.init (HII.out.1.below (HALL.out _ HX.out).2.2) (HII.out.2.below (HALL.out _ HX.out).2.2)).mono ?_; rintro e w2 ⟨rfl, hb⟩; have HXN := Lib.hid (bt HX.out (Nat.le_refl _) hb); clear HX hb x0 x1 x2 y0 y1 y2; have HX := HXN; clear HXN; obtain ⟨x0, x1, x2⟩ := trio_of (HALL.out _ HX.out).1; obtain ⟨y0, y1, y2⟩ := trio_of (HALL.out _ HX.out).2.1))
  generalize ((w.alloc (.cells #[.slice AI ni cI, .slice AR n cR, .int .i64 lp] 49)).alloc (.cells #[.slice BI nj dI, .slice BR n dR, .int .i64 lp] 49)) = W0 at HALL HX
  go_loopg [5] n (fun j iv wr => ∃ k : Nat, k ≤ n ∧ iv = .int .i64 k ∧ j = n - k ∧ Below W0.heap.size W0 wr)
  case atStart => exact ⟨0, Nat.zero_le _, rfl, rfl, HX.out⟩
  case round =>
    obtain ⟨k, hk, rfl, hgk, hbw⟩ := hrel
    subst hgk
    clear HX x0 x1 x2 y0 y1 y2
    have HX := Lib.hid hbw
    clear hbw
    obtain ⟨x0, x1, x2⟩ := trio_of (HALL.out _ HX.out).1
    obtain ⟨y0, y1, y2⟩ := trio_of (HALL.out _ HX.out).2.1
    by_cases hlt : k < n
    · obtain ⟨row, hz⟩ : ∃ row, t.rows[k]? = some row := ⟨_, List.getElem?_eq_getElem (by rw [HN.out]; exact hlt)⟩
      obtain ⟨rb, ro, u, e, hrb, hu, hru⟩ := HRR.out k row hz
      subst e
      obtain ⟨sb, so, v, e, hsb, hv, hsv⟩ := HSS.out k row hz
      subst e
      obtain ⟨uA, un, uc, hue⟩ := slO_form hru
      subst hue
      obtain ⟨vA, vn, vc, hve⟩ := slO_form hsv
      subst hve
      have HRU := Lib.hid (And.intro hru hsv)
      have HCL : Hid (∀ wz, Below wr.heap.size wr wz → (wz.cell? ⟨w.heap.size, 1, none⟩ = some (.slice (some ⟨rb, ro, none⟩) n cR) ∧ wz.cell? ⟨w.heap.size + 1, 1, none⟩ = some (.slice (some ⟨sb, so, none⟩) n dR) ∧ wz.cell? ⟨rb, ro + k, none⟩ = some (.slice uA un uc) ∧ wz.cell? ⟨sb, so + k, none⟩ = some (.slice vA vn vc)) ∧ RowE 1 encO wz (.slice uA un uc) row ∧ RowE 1 encO wz (.slice vA vn vc) row) := Lib.hid (fun wz hb => by
        have h1 := bt HX.out (Nat.le_refl _) hb
        obtain ⟨_, e1, _⟩ := trio_of (HALL.out _ h1).1
        obtain ⟨_, f1, _⟩ := trio_of (HALL.out _ h1).2.1
        have h3 := (HALL.out _ h1).2.2
        exact ⟨⟨e1, f1, (h3.cell (p := ⟨rb, ro + k, none⟩) hrb).trans hu, (h3.cell (p := ⟨sb, so + k, none⟩) hsb).trans hv⟩, HRU.out.1.below h3, HRU.out.2.below h3⟩)
      have hk0 : (0 : Int) ≤ (k : Int) := by omega
      have hk1 : (k : Int) < (n : Int) := by omega
      clear hz hu hv hru hsv hrb hsb
      go_upto_region 6 with (fail)
      refine wp_region_quiet (C := fun wz => Below wr.heap.size wr wz) (by kernel_rfl) (by kernel_rfl) (Below.refl wr.heap.size wr).drew ?_
      simp only
      repeat
        first
          | go_big_quiet_skip
          | (refine wpQuiet_step (fun K hK => ?_)
             rw [if_pos (by rfl)]
             unfold Oper.quiet
             apply Exists.intro
             refine And.intro (fun wx hWx => ?_) (hK _ ?_)
             · obtain ⟨⟨e1, f1, g1, g2⟩, g3, g4⟩ := HCL.out wx hWx
               first
                 | (go_simp; exact rfl)
                 | (go_simp; go_at_call 43; refine (HSA.out _ _ _ row g3 g4).mono ?_; rintro e w' ⟨rfl, hb'⟩; exact ⟨rfl, bt hWx (Nat.le_refl _) hb'⟩)
             clear hK K
             try simp only [Act.put, zA, zB, zC])
      refine wpQuiet_nil ?_
      intro w5 hw5
      have HW5 := Lib.hid hw5
      clear hw5
      go_wp2
      go_roundg (n - (k + 1))
      case measure => omega
      case rel => exact ⟨k + 1, by omega, by go_num, rfl, bt HX.out (Nat.le_refl _) HW5.out⟩
    · go_wp2
      go_ret
      exact ⟨rfl, (HALL.out _ HX.out).2.2⟩

theorem LentC.box {w w' : World} {B b : Nat} {C : Circ} {us : List Value} {V : CV} {t : TypeId} {cs : Array Value} (h : LentC w B C us V) (hb : Blk w b t cs) (ht : t = 29 ∨ t = 49) (ho : ∀ k, k ≠ b → w'.heap[k]? = w.heap[k]?) : LentC w' B C us V := by
  have hb' : w.heap[b]? = some (.cells cs t (0, 0)) := hb
  have key : ∀ {g : Nat} {cur : Array Value} {e : TypeId}, e ≠ t → w.heap[g]? = some (.cells cur e (0, 0)) → w'.heap[g]? = some (.cells cur e (0, 0)) := fun {g cur e} he hg =>
    (ho g (fun e3 => by
      subst e3
      rw [hg] at hb'
      injection hb' with hb'
      injection hb' with _ e4 _
      exact he e4)).trans hg
  have own : ∀ {e : TypeId} {z n : Nat} {v : Value} {xs : List Value}, e ≠ t → w.ownsRow B e z v n xs → w'.ownsRow B e z v n xs := fun he h0 => own_of_block h0 fun g hg => ho g (fun e => own_blk_ne h0 hb he (by rw [hg, e]))
  have li : ∀ {v : Value} {zs : List Int}, Lent w B v zs → Lent w' B v zs := fun hl => by
    obtain ⟨g, cap, cur, rfl, hB, hg, h⟩ := hl
    exact ⟨g, cap, cur, rfl, hB, key (by rcases ht with rfl | rfl <;> decide) hg, h⟩
  have lt : ∀ {e : TypeId} {v : Value} {zs : List Tri}, e ≠ t → LentT w B e v zs → LentT w' B e v zs := fun he hl => by
    obtain ⟨g, cap, cur, rfl, hB, hg, h⟩ := hl
    exact ⟨g, cap, cur, rfl, hB, key he hg, h⟩
  have d : ∀ e : TypeId, e ≠ 29 → e ≠ 49 → e ≠ t := fun e h1 h2 => by rcases ht with rfl | rfl <;> assumption
  exact ⟨li h.i, lt (d _ (by decide) (by decide)) h.l, li h.o, li h.b, li h.c, ⟨h.j.ul, own (d _ (by decide) (by decide)) h.j.own, fun i x zs hx hz => own (d _ (by decide) (by decide)) (h.j.each i x zs hx hz)⟩, li h.f, lt (d _ (by decide) (by decide)) h.a, own (d _ (by decide) (by decide)) h.s, own (d _ (by decide) (by decide)) h.t⟩
theorem OwnT.box {w w' : World} {B b : Nat} {tr : Tr} {U : TV} {t : TypeId} {cs : Array Value} (h : OwnT w B tr U) (hb : Blk w b t cs) (ht : t = 29 ∨ t = 49) (ho : ∀ k, k ≠ b → w'.heap[k]? = w.heap[k]?) : OwnT w' B tr U := by
  have own : ∀ {e : TypeId} {z n : Nat} {v : Value} {xs : List Value}, e ≠ t → w.ownsRow B e z v n xs → w'.ownsRow B e z v n xs := fun he h0 => own_of_block h0 fun g hg => ho g (fun e => own_blk_ne h0 hb he (by rw [hg, e]))
  have d : ∀ e : TypeId, e ≠ 29 → e ≠ 49 → e ≠ t := fun e h1 h2 => by rcases ht with rfl | rfl <;> assumption
  obtain ⟨us, h1, h2, h3⟩ := h.ex
  exact ⟨own (d _ (by decide) (by decide)) h.i, us, h1, own (d _ (by decide) (by decide)) h2, fun i u zs hu hz => own (d _ (by decide) (by decide)) (h3 i u zs hu hz)⟩
theorem one_lent {w : World} {B : Nat} {V : CV} {us : List Value} {C : Circ} {m : Int} (h : LentC w B C us V) : (V.cells m).all (·.oneCell') = true := by
  obtain ⟨A0, n0, k0, hf0⟩ := sl_form h.in_.i
  obtain ⟨A1, n1, k1, hf1⟩ := sl_form h.in_.l
  obtain ⟨A2, n2, k2, hf2⟩ := sl_form h.in_.o
  obtain ⟨A3, n3, k3, hf3⟩ := sl_form h.in_.b
  obtain ⟨A4, n4, k4, hf4⟩ := sl_form h.in_.c
  obtain ⟨A5, n5, k5, hf5⟩ := sl_formL h.in_.j
  obtain ⟨A6, n6, k6, hf6⟩ := sl_form h.in_.f
  obtain ⟨A7, n7, k7, hf7⟩ := sl_form h.in_.a
  obtain ⟨A8, n8, k8, hf8⟩ := sl_form h.in_.s
  obtain ⟨A9, n9, k9, hf9⟩ := sl_form h.in_.t
  simp only [CV.cells]
  rw [hf0, hf1, hf2, hf3, hf4, hf5, hf6, hf7, hf8, hf9]
  simp [Value.oneCell']
theorem one_own {w : World} {B : Nat} {U : TV} {t : Tr} {lp : Int} (h : OwnT w B t U) : (U.cells lp).all (·.oneCell') = true := by
  obtain ⟨A0, n0, k0, hf0⟩ := slO_form h.in_.i
  obtain ⟨BR, dR, fR, _, _⟩ := h.in_.r.at_
  simp only [TV.cells]
  rw [hf0, fR]
  simp [Value.oneCell']
theorem alloc_trace (w : World) : (Instr.alloc 49 true (.tuple #[])).run Try.prog w = .ok (.pointer (some ⟨w.heap.size, 0, none⟩)) (w.alloc (.cells #[.slice none 0 0, .slice none 0 0, .int .i64 0] 49)) := by kernel_rfl
theorem wp_act_eqR {P : Program} {ops : Array Oper} {Q : Exit → Act → World → Prop} {i : Nat} {K : Act → World → Prop} {a a' : Act} {w : World} (e : a = a') (h : wpOp P ops Q i K a' w) : wpOp P ops Q i K a w := e ▸ h
def srC (C : Circ) (m : Int) (v : Value) (w : World) : Prop := ∃ (V : CV) (us : List Value) (B : Nat), v = V.val m ∧ LentC w B C us V
def srT (t : Tr) (lp : Int) (v : Value) (w : World) : Prop := ∃ (U : TV) (B : Nat), v = U.val lp ∧ OwnT w B t U
def srB (N : Nat) (e : TypeId) (z : Array Value) (v : Value) (w : World) : Prop := ∃ b, v = .pointer (some ⟨b, 0, none⟩) ∧ N ≤ b ∧ Blk w b e z
def zeroT : Array Value := #[.slice none 0 0, .slice none 0 0, .int .i64 0]

theorem Lent.box {w w' : World} {B b : Nat} {v : Value} {zs : List Int} {t : TypeId} {cs : Array Value} (h : Lent w B v zs) (hb : Blk w b t cs) (ht : t = 29 ∨ t = 49) (ho : ∀ k, k ≠ b → w'.heap[k]? = w.heap[k]?) : Lent w' B v zs := by
  have hb' : w.heap[b]? = some (.cells cs t (0, 0)) := hb
  obtain ⟨g, cap, cur, rfl, hB, hg, h⟩ := h
  refine ⟨g, cap, cur, rfl, hB, (ho g (fun e3 => ?_)).trans hg, h⟩
  subst e3
  rw [hg] at hb'
  injection hb' with hb'
  injection hb' with _ e4 _
  rcases ht with rfl | rfl <;> exact absurd e4 (by decide)
theorem newRowB (w : World) (old new : Array Value) (t : TypeId) : Below w.heap.size w ((w.alloc (.cells old t)).setRow w.heap.size new) ∧ ((w.alloc (.cells old t)).setRow w.heap.size new).heap[w.heap.size]? = some (.cells new t (0, 0)) ∧ ((w.alloc (.cells old t)).setRow w.heap.size new).heap.size = w.heap.size + 1 := by
  have h1 : Below w.heap.size w (w.alloc (.cells old t)) := (Below.refl _ _).alloc (Nat.le_refl _) _
  have h2 : (w.alloc (.cells old t)).heap[w.heap.size]? = some (.cells old t (0, 0)) := Blk.new w t old
  exact ⟨⟨h1.os, h1.tape, h1.output, by rw [size_setRow]; exact h1.size, fun k hk => (setRow_other _ _ _ _ (by omega)).trans (h1.block k hk)⟩, setRow_heap _ _ _ _ _ _ h2, by rw [size_setRow]; simp⟩
abbrev backCells (X : CV) (m : Int) (lv iv tv : Value) (U : TV) (k : Int) (u : Value) : Array Value := #[.int .i64 m, X.i, X.l, X.o, X.b, X.c, X.j, X.f, X.a, X.s, X.t, lv, iv, tv, U.i, U.r, .int .i64 k, u]
structure BackIn (w : World) (lv iv tv u : Value) (L I T M : List Int) (U : TV) (t : Tr) : Prop where
  l : RowE 1 encI w lv L
  i : RowE 1 encI w iv I
  tt : RowE 1 encI w tv T
  m : RowE 1 encI w u M
  s : t.In w U
  r : t.Reach
  ml : M.length * 8 ≤ 140737488351232
  mw : ∀ z ∈ M, I64 z
  lw : ∀ z ∈ L, I64 z
  iw : ∀ z ∈ I, I64 z
  tw : ∀ z ∈ T, I64 z
structure BK (w wx : World) (V : CV) (C : Circ) (bx : Array Value) (lv iv tv u : Value) (L I T M : List Int) (S : TV) (t : Tr) (gi gt : Nat) (U : CV) (us : List Value) (R : TV) (l : Value) : Prop where
  c : Blk wx w.heap.size 29 (V.cells C.max)
  k : Blk wx (w.heap.size + 1) 52 bx
  ci : Blk wx gi 29 (U.cells C.max)
  ti : Blk wx gt 49 (R.cells t.loop)
  lc : ∃ B, LentC wx B C us U
  r : t.In wx R
  ll : ∃ B, Lent wx B l M
  v : C.In wx V
  rl : RowE 1 encI wx lv L
  ri : RowE 1 encI wx iv I
  rt : RowE 1 encI wx tv T
  rm : RowE 1 encI wx u M
  s : t.In wx S
  b : Below w.heap.size w wx
theorem BK.below {w wx wz : World} {V : CV} {C : Circ} {bx : Array Value} {lv iv tv u : Value} {L I T M : List Int} {S : TV} {t : Tr} {gi gt : Nat} {U : CV} {us : List Value} {R : TV} {l : Value} (h : BK w wx V C bx lv iv tv u L I T M S t gi gt U us R l) (hb : Below wx.heap.size wx wz) : BK w wz V C bx lv iv tv u L I T M S t gi gt U us R l := by
  obtain ⟨B, hl⟩ := h.lc
  obtain ⟨B2, hl2⟩ := h.ll
  exact ⟨h.c.below hb h.c.lt, h.k.below hb h.k.lt, h.ci.below hb h.ci.lt, h.ti.below hb h.ti.lt, ⟨B, hl.below hb⟩, h.r.below hb, ⟨B2, hl2.below hb⟩, h.v.below hb, h.rl.below hb, h.ri.below hb, h.rt.below hb, h.rm.below hb, h.s.below hb, bt h.b (Nat.le_refl _) hb⟩
theorem run_load_part {P : Program} (w : World) (b off : Nat) (ty : TypeId) (vs : List Value) (d : TypeDesc) (hc : ∀ j v, vs[j]? = some v → w.cell? ⟨b, off + j, none⟩ = some v)
    (hu : P.underlying ty = some d) (hd : (match d with | .struct _ | .array _ _ => true | _ => false) = true) (hi : (P.info? ty).map (·.size) = some vs.length) :
    (loadVar ty ⟨b, off, none⟩).run P w = .ok (.agg vs.toArray) w := by
  have hl : (loadCells ⟨b, off, none⟩ vs.length).run P w = .ok vs.toArray w :=
    run_loadCells_list (P := P) w ⟨b, off, none⟩ vs (fun j v hv => by
      have hadd : (⟨b, off, none⟩ : Addr).add j = ⟨b, off + j, none⟩ := by unfold Addr.add; split <;> simp_all
      rw [hadd]
      exact hc j v hv)
  cases hq : P.info? ty with
  | none => simp [hq] at hi
  | some i =>
    have hs : i.size = vs.length := by simpa [hq] using hi
    have hagg : (isAgg ty).run P w = .ok true w := by
      unfold isAgg
      rw [Sem.run_bind, run_underlying hu w]
      cases d <;> simp_all
    simp [loadVar, Sem.run_bind, hagg, sizeOf, typeInfo, hq, hs, hl]
theorem wp_load_part {P : Program} {o : Oper} {a : Act} {w : World} {K : Act → World → Prop} {Q : Exit → Act → World → Prop} (ty : TypeId) (x : Operand) (ho : o.op = .load ty x)
    (b off : Nat) (hx : a.eval x = .pointer (some ⟨b, off, none⟩)) (vs : List Value) (d : TypeDesc) (hc : ∀ j v, vs[j]? = some v → w.cell? ⟨b, off + j, none⟩ = some v)
    (hu : P.underlying ty = some d) (hd : (match d with | .struct _ | .array _ _ => true | _ => false) = true) (hi : (P.info? ty).map (·.size) = some vs.length)
    (h : K (a.put o.dst (.agg vs.toArray)) w) : o.wp P a w K Q := by
  unfold Oper.wp execOp
  simp only [ho, hx, Instr.loadAt, Instr.sureAddr, Sem.run_bind, Sem.run_pure, Result.andThen_ok, run_load_part w b off ty vs d hc hu hd hi]
  exact h
theorem wpList_load_part {P : Program} {ops : Array Oper} {rest : List Oper} {o : Oper} {a : Act} {w : World} {Q : Exit → Act → World → Prop} (hgd : o.guard = none) (ty : TypeId) (x : Operand) (ho : o.op = .load ty x)
    (b off : Nat) (hx : a.eval x = .pointer (some ⟨b, off, none⟩)) (vs : List Value) (d : TypeDesc) (hc : ∀ j v, vs[j]? = some v → w.cell? ⟨b, off + j, none⟩ = some v)
    (hu : P.underlying ty = some d) (hd : (match d with | .struct _ | .array _ _ => true | _ => false) = true) (hi : (P.info? ty).map (·.size) = some vs.length)
    (h : wpList P ops Q rest (a.put o.dst (.agg vs.toArray)) w) : wpList P ops Q (o :: rest) a w :=
  wpList_plain hgd fun _ hK => wp_load_part ty x ho b off hx vs d hc hu hd hi (hK _ _ h)
theorem blk_part {w : World} {b : Nat} {t : TypeId} {cs : Array Value} (h : Blk w b t cs) (off : Nat) (vs : List Value) (e : ∀ j, j < vs.length → cs[off + j]? = vs[j]?) : ∀ j v, vs[j]? = some v → w.cell? ⟨b, off + j, none⟩ = some v := fun j v hv => by
  rw [cell_of_row w b (off + j) cs t _ h, e j (List.getElem?_eq_some_iff.1 hv).1]
  exact hv
theorem field_bk1 (b : Nat) (w : World) : (Instr.fieldAt 52 (.pointer (some ⟨b, 0, none⟩)) 1).run Try.prog w = .ok (.pointer (some ⟨b, 14, none⟩)) w := by kernel_rfl
theorem field_bk2 (b : Nat) (w : World) : (Instr.fieldAt 52 (.pointer (some ⟨b, 0, none⟩)) 2).run Try.prog w = .ok (.pointer (some ⟨b, 17, none⟩)) w := by kernel_rfl
def bkL (M : List Int) (v : Value) (w : World) : Prop := ∃ B, Lent w B v M
def bkVals (N : Nat) (C : Circ) (t : Tr) (M : List Int) (m lp : Int) (cv tv p1 p2 u : Value) : List (Value → World → Prop) := [cst cv, srC C m, cst p1, cst tv, srT t lp, cst p2, cst u, bkL M, srB N 29 zeroC, srB N 49 zeroT]
theorem bk_keep {N : Nat} {C : Circ} {t : Tr} {M : List Int} {m lp : Int} {cv tv p1 p2 u : Value} : ∀ i v w1 w2, Below (World.heap w1).size w1 w2 → valL (bkVals N C t M m lp cv tv p1 p2 u) i v w1 → valL (bkVals N C t M m lp cv tv p1 p2 u) i v w2 := by
  refine valL_keep (G := fun w1 w2 => Below (World.heap w1).size w1 w2) _ (fun p hp => ?_)
  simp only [bkVals, List.mem_cons, List.not_mem_nil, or_false] at hp
  rcases hp with rfl | rfl | rfl | rfl | rfl | rfl | rfl | rfl | rfl | rfl
  · exact cst_stab _
  · rintro v w1 w2 hb ⟨V, us, B, e, h⟩
    exact ⟨V, us, B, e, h.below hb⟩
  · exact cst_stab _
  · exact cst_stab _
  · rintro v w1 w2 hb ⟨U, B, e, h⟩
    exact ⟨U, B, e, h.below hb⟩
  · exact cst_stab _
  · exact cst_stab _
  · rintro v w1 w2 hb ⟨B, h⟩
    exact ⟨B, h.below hb⟩
  · rintro v w1 w2 hb ⟨b, e, h1, h2⟩
    exact ⟨b, e, h1, h2.below hb h2.lt⟩
  · rintro v w1 w2 hb ⟨b, e, h1, h2⟩
    exact ⟨b, e, h1, h2.below hb h2.lt⟩
theorem wp_assign {P : Program} {o : Oper} {a : Act} {w : World} {x : Operand} {K : Act → World → Prop} {Q : Exit → Act → World → Prop} (ho : o.op = .assign x) (h : K (a.put o.dst (a.eval x)) w) : o.wp P a w K Q := by
  refine wp_val (v := a.eval x) (w' := w) ?_ h
  unfold execOp
  rw [ho]
  rfl
theorem tk {w : World} {b : Nat} {U : TV} {k l : Int} (h : Blk w b 49 (U.cells k)) (e : k = l) : Blk w b 49 (U.cells l) := e ▸ h
theorem tk2 {w : World} {b : Nat} {U : CV} {k l : Int} (h : Blk w b 29 (U.cells k)) (e : k = l) : Blk w b 29 (U.cells l) := e ▸ h
theorem back_cells {w : World} {b : Nat} {t : TypeId} {a0 a1 a2 a3 a4 a5 a6 a7 a8 a9 a10 a11 a12 a13 a14 a15 a16 a17 : Value} (h : Blk w b t #[a0, a1, a2, a3, a4, a5, a6, a7, a8, a9, a10, a11, a12, a13, a14, a15, a16, a17]) : w.cell? ⟨b, 14, none⟩ = some a14 ∧ w.cell? ⟨b, 15, none⟩ = some a15 ∧ w.cell? ⟨b, 16, none⟩ = some a16 ∧ w.cell? ⟨b, 17, none⟩ = some a17 := ⟨h.cell 14, h.cell 15, h.cell 16, h.cell 17⟩
theorem lent_form {w wx : World} {V : CV} {C : Circ} {bx : Array Value} {lv iv tv u : Value} {L I T M : List Int} {S : TV} {t : Tr} {gi gt : Nat} {U : CV} {us : List Value} {R : TV} {l : Value} (h : BK w wx V C bx lv iv tv u L I T M S t gi gt U us R l) : ∃ A n c, l = .slice A n c := by
  obtain ⟨B, g, cap, cur, e, _⟩ := h.ll
  exact ⟨_, _, _, e⟩
theorem own_iRowB {w : World} {B : Nat} {v : Value} {zs : List Int} (h : w.ownsRow B 3 1 v zs.length (zs.map (Value.int .i64))) : RowE 1 encI w v zs := own_rowe lenI (by rw [flat_ints]; exact h)
theorem OwnT.base {w : World} {B B2 : Nat} {t : Tr} {U : TV} (h : OwnT w B t U) (hb : B2 ≤ B) : OwnT w B2 t U := by
  obtain ⟨us, h1, h2, h3⟩ := h.ex
  exact ⟨own_base h.i hb, us, h1, own_base h2 hb, fun i u zs hu hz => own_base (h3 i u zs hu hz) hb⟩
theorem load_lem (b k : Nat) (w : World) {v : Value} (h : w.cell? ⟨b, k, none⟩ = some v) : (Instr.loadAt 50 (.pointer (some ⟨b, k, none⟩))).run Try.prog w = .ok v w := load_at _ (fun _ _ => by kernel_rfl) h
set_option maxHeartbeats 8000000 in
set_option maxRecDepth 100000 in
theorem coneBacks_walk (w : World) (V : CV) (C : Circ) (X : CV) (mx : Int) (lv iv tv : Value) (L I T : List Int) (S : TV) (t : Tr) (u : Value) (M : List Int) (h : C.In w V) (ok : C.Ok) (rm : C.Room ∧ C.Reach) (hbi : BackIn w lv iv tv u L I T M S t) :
    Calls Try.prog 4 #[V.val C.max, .agg (backCells X mx lv iv tv S t.loop u)] w fun e w' => e = .returned (.bool true) ∧ Below w.heap.size w w' := by
  obtain ⟨rm, re⟩ := rm
  have HIN := Lib.hid h
  have HBI := Lib.hid hbi
  have HRMC := Lib.hid (And.intro rm re)
  have HTR := Lib.hid (fun (wx : World) (V2 : CV) (U2 : TV) (hx : C.In wx V2) (h1 : RowE 1 encI wx iv I) (h2 : RowE 1 encI wx tv T) (hy : t.In wx U2) => coneTrace_any wx V2 C X mx lv iv tv I T U2 t hx ok h1 h2 hy)
  have HRT := Lib.hid (fun (wx : World) (V2 : CV) (U2 : TV) (hx : C.In wx V2) (h1 : RowE 1 encI wx iv I) (h2 : RowE 1 encI wx tv T) (hy : t.In wx U2) => rTraceC_any wx V2 C X mx lv iv tv I T U2 t hx ok re.t h1 h2 hy hbi.iw hbi.tw)
  have HLM := Lib.hid (fun (wx : World) (V2 : CV) (y : Value) (hx : C.In wx V2) (h1 : RowE 1 encI wx lv L) (h2 : RowE 1 encI wx y M) => coneLemma_any wx V2 C X mx lv iv tv y L M hx ok h1 h2 hbi.mw)
  have HRL := Lib.hid (fun (wx : World) (V2 : CV) (y : Value) (hx : C.In wx V2) (h1 : RowE 1 encI wx lv L) (h2 : RowE 1 encI wx y M) => rLemma_any wx V2 C X mx lv iv tv y L M hx ok re.t h1 h2 hbi.mw hbi.lw)
  have HKEPT := Lib.hid (fun (wx : World) (B : Nat) (V2 V3 : CV) (us : List Value) (hl : LentC wx B C us V2) (hx : C.In wx V3) => KeptCircuit_any wx B V2 V3 C us hl hx)
  have HSAME := Lib.hid (fun (wx : World) (U2 U3 : TV) (hx : t.In wx U2) (hy : t.In wx U3) => SameTrace_any wx U2 U3 t hx hy)
  have HKI := Lib.hid (fun (wx : World) (B : Nat) (y z : Value) (hl : Lent wx B y M) (hx : Ints wx z M) => KeptInts_any wx B y z M hl hx)
  obtain ⟨tr, htr⟩ : ∃ x, traR C I T t = x := ⟨_, rfl⟩
  obtain ⟨te, hte⟩ : ∃ x, traE C I T t = x := ⟨_, rfl⟩
  obtain ⟨le, lr, hle⟩ : ∃ x y, lemE C L M = (x, y) := ⟨_, _, rfl⟩
  rw [htr, hte] at HTR HRT
  rw [hle] at HLM HRL
  have HSM2 := Lib.hid (fun (wx : World) (U2 U3 : TV) (hx : tr.In wx U2) (hy : tr.In wx U3) => SameTrace_any wx U2 U3 tr hx hy)
  have HSI := Lib.hid (fun (wx : World) (y z : Value) (hx : RowE 1 encI wx y lr) (hy : RowE 1 encI wx z lr) => SameInts_any wx y z lr lr hx hy)
  rw [decide_eq_true (rfl : lr = lr)] at HSI
  have hq1 : (te != te) = false := by simp
  have hq2 : (le != le) = false := by simp
  obtain ⟨Vi, Vl, Vo, Vb, Vc, Vj, Vf, Va, Vs, Vt⟩ := V
  obtain ⟨Si, Sr⟩ := S
  obtain ⟨m, hmm⟩ : ∃ m, C.max = m := ⟨_, rfl⟩
  obtain ⟨lp, hlp⟩ : ∃ lp, t.loop = lp := ⟨_, rfl⟩
  obtain ⟨tl, htl⟩ : ∃ x, tr.loop = x := ⟨_, rfl⟩
  have HMM := Lib.hid (And.intro hmm hlp)
  have HTL := Lib.hid htl
  rw [hmm, hlp] at HTR HRT
  rw [hmm] at HLM HRL HKEPT
  rw [hlp] at HSAME
  rw [htl] at HTR HRT HSM2
  rw [hmm, hlp]
  clear h rm re hbi hmm hlp htl htr hte hle
  go_enter Try.func4, Try.ntmps4
  go_upto_region 1 with (fail)
  go_cut [5, 6, 7] (fun p q r wx => ∃ (gi gt : Nat) (U2 : CV) (us : List Value) (R : TV), p = .pointer (some ⟨gi, 0, none⟩) ∧ q = .pointer (some ⟨gt, 0, none⟩) ∧ BK w wx ⟨Vi, Vl, Vo, Vb, Vc, Vj, Vf, Va, Vs, Vt⟩ C (backCells X mx lv iv tv ⟨Si, Sr⟩ lp u) lv iv tv u L I T M ⟨Si, Sr⟩ t gi gt U2 us R r)
  case first =>
    have HLE := Lib.hid (fun (wx : World) (hx : C.In wx ⟨Vi, Vl, Vo, Vb, Vc, Vj, Vf, Va, Vs, Vt⟩) => LendCircuit_any wx ⟨Vi, Vl, Vo, Vb, Vc, Vj, Vf, Va, Vs, Vt⟩ C hx HRMC.out.1 ⟨HRMC.out.2.i, HRMC.out.2.o, HRMC.out.2.b, HRMC.out.2.c, HRMC.out.2.f, HRMC.out.2.l, HRMC.out.2.a⟩)
    have HCT := Lib.hid (fun (wx : World) (hx : t.In wx ⟨Si, Sr⟩) => CopyTrace_any wx ⟨Si, Sr⟩ t hx HBI.out.r)
    have HLI := Lib.hid (fun (wx : World) (hx : RowE 1 encI wx u M) => LendInts_any wx u M hx HBI.out.ml)
    rw [HMM.out.1] at HLE
    rw [HMM.out.2] at HCT
    obtain ⟨X0, hX⟩ : ∃ Y, Y = ((w.alloc (.cells #[.int .i64 m, Vi, Vl, Vo, Vb, Vc, Vj, Vf, Va, Vs, Vt] 29)).alloc (.cells (backCells X mx lv iv tv ⟨Si, Sr⟩ lp u) 52)) := ⟨_, rfl⟩
    have hXB : Below w.heap.size w X0 := by rw [hX]; exact ((Below.refl w.heap.size w).alloc (Nat.le_refl _) _).alloc (by simp) _
    have hX0 : Blk X0 w.heap.size 29 #[.int .i64 m, Vi, Vl, Vo, Vb, Vc, Vj, Vf, Va, Vs, Vt] := by rw [hX]; exact (Blk.new w _ _).alloc _
    have hX1 : Blk X0 (w.heap.size + 1) 52 (backCells X mx lv iv tv ⟨Si, Sr⟩ lp u) := by
      rw [hX]
      have h9 := Blk.new (w.alloc (.cells #[.int .i64 m, Vi, Vl, Vo, Vb, Vc, Vj, Vf, Va, Vs, Vt] 29)) 52 (backCells X mx lv iv tv ⟨Si, Sr⟩ lp u)
      rwa [show (w.alloc (.cells #[.int .i64 m, Vi, Vl, Vo, Vb, Vc, Vj, Vf, Va, Vs, Vt] 29)).heap.size = w.heap.size + 1 by simp] at h9
    rw [← hX]
    have HOLD : ∀ wz, Below X0.heap.size X0 wz → C.In wz ⟨Vi, Vl, Vo, Vb, Vc, Vj, Vf, Va, Vs, Vt⟩ ∧ t.In wz ⟨Si, Sr⟩ ∧ RowE 1 encI wz u M ∧ Blk wz w.heap.size 29 #[.int .i64 m, Vi, Vl, Vo, Vb, Vc, Vj, Vf, Va, Vs, Vt] ∧ Blk wz (w.heap.size + 1) 52 (backCells X mx lv iv tv ⟨Si, Sr⟩ lp u) := fun wz hb => by
      have h9 := bt hXB (Nat.le_refl _) hb
      exact ⟨HIN.out.below h9, HBI.out.s.below h9, HBI.out.m.below h9, hX0.below hb hX0.lt, hX1.below hb hX1.lt⟩
    refine region_lit ?_
    intro ops hops
    have HBA : (webB ops && acyB ops && (ops.size == 10 + (2 + 1)) && Region.sinkB .any ops 10 && (List.range (2 + 1)).all fun k => decide (2 ≤ k) || Region.waitsFor .any ops (10 + k + 1) (10 + k)) = true := by rw [hops]; kernel_rfl
    have HB : webB ops = true := by rw [hops]; kernel_rfl
    have HND2 : ∀ j, j < ops.size → dstOf ops j ≠ some 2 := noDst_spec (by rw [hops]; kernel_rfl)
    have HND3 : ∀ j, j < ops.size → dstOf ops j ≠ some 3 := noDst_spec (by rw [hops]; kernel_rfl)
    obtain ⟨w0, hw0⟩ : ∃ w0 : World, w0 = { X0 with drawn := X0.drawn + 1 } := ⟨_, rfl⟩
    have hb0 : Below X0.heap.size X0 w0 := by rw [hw0]; exact (Below.refl _ _).drew
    refine wp_region_wesM (by kernel_rfl) 10 2 HBA (fun w1 w2 => Below w1.heap.size w1 w2) (valL (bkVals X0.heap.size C t M m lp (.agg #[.int .i64 m, Vi, Vl, Vo, Vb, Vc, Vj, Vf, Va, Vs, Vt]) (.agg #[Si, Sr, .int .i64 lp]) (.pointer (some ⟨w.heap.size + 1, 14, none⟩)) (.pointer (some ⟨w.heap.size + 1, 17, none⟩)) u)) (fun _ _ _ _ => True) (fun _ _ _ _ _ => True) (fun _ _ _ _ _ _ _ _ _ _ _ => ⟨trivial, trivial⟩) (fun _ _ _ _ _ _ _ _ => trivial) (fun a => Below.refl _ _) (fun a b c h1 h2 => bt h1 (Nat.le_refl _) h2) bk_keep ?_ ?_
    · intro i o hi ho
      rw [← hw0]
      rw [hops] at ho
      match i, hi, ho with
      | 0, _, ho =>
        simp only [zD, zE, Option.some.injEq] at ho; subst ho
        refine wesStep_of HB rfl (fun f aC wz hw hd ha hv hsp K hK => ?_)
        have hbx : Below X0.heap.size X0 wz := bt hb0 (Nat.le_refl _) (hw.mono (Nat.le_refl _))
        have e1 : aC.eval (.tmp 2) = .pointer (some ⟨w.heap.size, 0, none⟩) := (ha 2 HND2).trans rfl
        refine wp_load_row 29 (.tmp 2) rfl w.heap.size e1 29 _ (0, 0) _ (HOLD wz hbx).2.2.2.1 Try.underlying29 rfl (by kernel_rfl) ?_
        exact hK _ _ (Below.refl _ _) rfl trivial
      | 1, _, ho =>
        simp only [zD, zE, zF, Option.some.injEq] at ho; subst ho
        refine wesStep_of HB rfl (fun f aC wz hw hd ha hv hsp K hK => ?_)
        have hbx : Below X0.heap.size X0 wz := bt hb0 (Nat.le_refl _) (hw.mono (Nat.le_refl _))
        have e1 : aC.eval (.tmp 16) = .agg #[.int .i64 m, Vi, Vl, Vo, Vb, Vc, Vj, Vf, Va, Vs, Vt] := (hd 0 16 (by rw [hops]; kernel_rfl) (by rw [hops]; kernel_rfl) (by simp)).trans (hv 0 (by rw [hops]; kernel_rfl))
        refine wp_enter (f := 5) (args := #[.agg #[.int .i64 m, Vi, Vl, Vo, Vb, Vc, Vj, Vf, Va, Vs, Vt]]) ?_ ((HLE.out wz (HOLD wz hbx).1).mono ?_)
        · simp [execOp, resolve, e1]; rfl
        · rintro e w' ⟨V', us', rfl, hbel, hcop⟩
          exact ⟨_, rfl, hK _ w' hbel ⟨V', us', _, rfl, hcop⟩ trivial⟩
      | 2, _, ho =>
        simp only [zD, zE, zF, Option.some.injEq] at ho; subst ho
        refine wesStep_of HB rfl (fun f aC wz hw hd ha hv hsp K hK => ?_)
        have hbx : Below X0.heap.size X0 wz := bt hb0 (Nat.le_refl _) (hw.mono (Nat.le_refl _))
        have e1 : aC.eval (.tmp 3) = .pointer (some ⟨w.heap.size + 1, 0, none⟩) := (ha 3 HND3).trans rfl
        refine wp_val (v := .pointer (some ⟨w.heap.size + 1, 14, none⟩)) (w' := wz) ?_ (hK _ _ (Below.refl _ _) rfl trivial)
        simp only [execOp, e1]
        exact run_value (field_bk1 _ wz)
      | 3, _, ho =>
        simp only [zD, zE, zF, Option.some.injEq] at ho; subst ho
        refine wesStep_of HB rfl (fun f aC wz hw hd ha hv hsp K hK => ?_)
        have hbx : Below X0.heap.size X0 wz := bt hb0 (Nat.le_refl _) (hw.mono (Nat.le_refl _))
        have e1 : aC.eval (.tmp 18) = .pointer (some ⟨w.heap.size + 1, 14, none⟩) := (hd 2 18 (by rw [hops]; kernel_rfl) (by rw [hops]; kernel_rfl) (by simp)).trans (hv 2 (by rw [hops]; kernel_rfl))
        refine wp_load_part 49 (.tmp 18) rfl (w.heap.size + 1) 14 e1 [Si, Sr, .int .i64 lp] _ (blk_part (HOLD wz hbx).2.2.2.2 14 _ (fun j hj => by
          match j, hj with
          | 0, _ => rfl
          | 1, _ => rfl
          | 2, _ => rfl)) Try.underlying49 rfl (by kernel_rfl) ?_
        exact hK _ _ (Below.refl _ _) rfl trivial
      | 4, _, ho =>
        simp only [zD, zE, zF, Option.some.injEq] at ho; subst ho
        refine wesStep_of HB rfl (fun f aC wz hw hd ha hv hsp K hK => ?_)
        have hbx : Below X0.heap.size X0 wz := bt hb0 (Nat.le_refl _) (hw.mono (Nat.le_refl _))
        have e1 : aC.eval (.tmp 19) = .agg #[Si, Sr, .int .i64 lp] := (hd 3 19 (by rw [hops]; kernel_rfl) (by rw [hops]; kernel_rfl) (by simp)).trans (hv 3 (by rw [hops]; kernel_rfl))
        refine wp_enter (f := 15) (args := #[.agg #[Si, Sr, .int .i64 lp]]) ?_ ((HCT.out wz (HOLD wz hbx).2.1).mono ?_)
        · simp [execOp, resolve, e1]; rfl
        · rintro e w' ⟨U', rfl, hbel, B', hcop⟩
          exact ⟨_, rfl, hK _ w' hbel ⟨U', B', rfl, hcop⟩ trivial⟩
      | 5, _, ho =>
        simp only [zD, zE, zF, Option.some.injEq] at ho; subst ho
        refine wesStep_of HB rfl (fun f aC wz hw hd ha hv hsp K hK => ?_)
        have hbx : Below X0.heap.size X0 wz := bt hb0 (Nat.le_refl _) (hw.mono (Nat.le_refl _))
        have e1 : aC.eval (.tmp 3) = .pointer (some ⟨w.heap.size + 1, 0, none⟩) := (ha 3 HND3).trans rfl
        refine wp_val (v := .pointer (some ⟨w.heap.size + 1, 17, none⟩)) (w' := wz) ?_ (hK _ _ (Below.refl _ _) rfl trivial)
        simp only [execOp, e1]
        exact run_value (field_bk2 _ wz)
      | 6, _, ho =>
        simp only [zD, zE, zF, Option.some.injEq] at ho; subst ho
        refine wesStep_of HB rfl (fun f aC wz hw hd ha hv hsp K hK => ?_)
        have hbx : Below X0.heap.size X0 wz := bt hb0 (Nat.le_refl _) (hw.mono (Nat.le_refl _))
        have e1 : aC.eval (.tmp 21) = .pointer (some ⟨w.heap.size + 1, 17, none⟩) := (hd 5 21 (by rw [hops]; kernel_rfl) (by rw [hops]; kernel_rfl) (by simp)).trans (hv 5 (by rw [hops]; kernel_rfl))
        refine wp_val (v := u) (w' := wz) ?_ (hK _ _ (Below.refl _ _) rfl trivial)
        simp only [execOp, e1]
        exact run_value (load_lem _ _ _ ((HOLD wz hbx).2.2.2.2.cell 17))
      | 7, _, ho =>
        simp only [zD, zE, zF, Option.some.injEq] at ho; subst ho
        refine wesStep_of HB rfl (fun f aC wz hw hd ha hv hsp K hK => ?_)
        have hbx : Below X0.heap.size X0 wz := bt hb0 (Nat.le_refl _) (hw.mono (Nat.le_refl _))
        have e1 : aC.eval (.tmp 22) = u := (hd 6 22 (by rw [hops]; kernel_rfl) (by rw [hops]; kernel_rfl) (by simp)).trans (hv 6 (by rw [hops]; kernel_rfl))
        refine wp_enter (f := 16) (args := #[u]) ?_ ((HLI.out wz (HOLD wz hbx).2.2.1).mono ?_)
        · simp [execOp, resolve, e1]; rfl
        · rintro e w' ⟨v', rfl, hl, hbel⟩
          exact ⟨_, rfl, hK _ w' hbel ⟨_, hl⟩ trivial⟩
      | 8, _, ho =>
        simp only [zD, zE, zF, Option.some.injEq] at ho; subst ho
        refine wesStep_of HB rfl (fun f aC wz hw hd ha hv hsp K hK => ?_)
        have hbx : Below X0.heap.size X0 wz := bt hb0 (Nat.le_refl _) (hw.mono (Nat.le_refl _))
        refine wp_val (v := .pointer (some ⟨wz.heap.size, 0, none⟩)) (w' := wz.alloc (.cells zeroC 29)) ?_ (hK _ _ ((Below.refl _ _).alloc (Nat.le_refl _) _) ⟨_, rfl, hbx.size, Blk.new _ _ _⟩ trivial)
        exact run_value (alloc_circ wz)
      | 9, _, ho =>
        simp only [zD, zE, zF, Option.some.injEq] at ho; subst ho
        refine wesStep_of HB rfl (fun f aC wz hw hd ha hv hsp K hK => ?_)
        have hbx : Below X0.heap.size X0 wz := bt hb0 (Nat.le_refl _) (hw.mono (Nat.le_refl _))
        refine wp_val (v := .pointer (some ⟨wz.heap.size, 0, none⟩)) (w' := wz.alloc (.cells zeroT 49)) ?_ (hK _ _ ((Below.refl _ _).alloc (Nat.le_refl _) _) ⟨_, rfl, hbx.size, Blk.new _ _ _⟩ trivial)
        exact run_value (alloc_trace wz)
      | n + 10, h, _ => exact absurd h (by omega)
    · intro f wz hw hv hsp
      rw [← hw0] at hw
      obtain ⟨V1, us, B1, e1, k1⟩ : srC C m (f 1) wz := hv 1 (by decide)
      obtain ⟨U1, B2, e3, k3⟩ : srT t lp (f 4) wz := hv 4 (by decide)
      obtain ⟨B3, k7⟩ : bkL M (f 7) wz := hv 7 (by decide)
      obtain ⟨x5, e4, h4, k4⟩ : srB X0.heap.size 29 zeroC (f 8) wz := hv 8 (by decide)
      obtain ⟨x6, e5, h5, k5⟩ : srB X0.heap.size 49 zeroT (f 9) wz := hv 9 (by decide)
      have hne : x5 ≠ x6 := fun e => by
        subst e
        have h1 : wz.heap[x5]? = some (.cells zeroC 29 (0, 0)) := k4
        have h2 : wz.heap[x5]? = some (.cells zeroT 49 (0, 0)) := k5
        rw [h1] at h2
        injection h2 with h2
        injection h2 with _ h2 _
        exact absurd h2 (by decide)
      have e : putAll ops f (List.range 10) ({ tmps := #[.agg #[.int .i64 m, Vi, Vl, Vo, Vb, Vc, Vj, Vf, Va, Vs, Vt], .agg (backCells X mx lv iv tv ⟨Si, Sr⟩ lp u), .pointer (some ⟨w.heap.size, 0, none⟩), .pointer (some ⟨w.heap.size + 1, 0, none⟩), .bool false, undef, undef, undef, undef, undef, undef, undef, undef, undef, undef, undef, undef, undef, undef, undef, undef, undef, undef, undef, undef, undef, undef, undef, undef, undef, undef, undef, undef, undef, undef, undef, undef, undef, undef, undef, undef, undef, undef, undef, undef, undef, undef, undef, undef, undef, undef, undef, undef, undef, undef, undef, undef, undef, undef, undef, undef, undef, undef, undef, undef, undef, undef, undef, undef, undef, undef, undef, undef, undef, undef, undef, undef, undef, undef, undef, undef, undef, undef, undef, undef, undef, undef, undef, undef, undef, undef, undef, undef, undef, undef, undef, undef, undef, undef, undef], defers := [] } : Act) = ({ tmps := #[.agg #[.int .i64 m, Vi, Vl, Vo, Vb, Vc, Vj, Vf, Va, Vs, Vt], .agg (backCells X mx lv iv tv ⟨Si, Sr⟩ lp u), .pointer (some ⟨w.heap.size, 0, none⟩), .pointer (some ⟨w.heap.size + 1, 0, none⟩), .bool false, f 8, f 9, undef, undef, undef, undef, undef, undef, undef, undef, undef, f 0, f 1, f 2, f 3, f 4, f 5, f 6, f 7, undef, undef, undef, undef, undef, undef, undef, undef, undef, undef, undef, undef, undef, undef, undef, undef, undef, undef, undef, undef, undef, undef, undef, undef, undef, undef, undef, undef, undef, undef, undef, undef, undef, undef, undef, undef, undef, undef, undef, undef, undef, undef, undef, undef, undef, undef, undef, undef, undef, undef, undef, undef, undef, undef, undef, undef, undef, undef, undef, undef, undef, undef, undef, undef, undef, undef, undef, undef, undef, undef, undef, undef, undef, undef, undef, undef], defers := [] } : Act) := by rw [hops]; kernel_rfl
      unfold chainP
      refine wp_act_eqR e ?_
      clear e
      have ho6 : ∃ o, ops[10]? = some o ∧ o.guard = none ∧ o.op = .store 29 (.tmp 5) (.tmp 17) ∧ o.dst = none := by rw [hops]; exact ⟨_, rfl, rfl, rfl, rfl⟩
      obtain ⟨o, ho1, ho2, ho3, ho4⟩ := ho6
      refine wpOp_of ho1 ho2 ?_
      refine wp_store_row 29 (.tmp 5) (.tmp 17) ho3 x5 (V1.cells m) (by exact e4) (by exact e1) 29 _ k4 (by kernel_rfl) rfl (one_lent k1) ?_
      rw [ho4]
      clear ho1 ho2 ho3 ho4 o
      obtain ⟨w3, hw3⟩ : ∃ w3, w3 = wz.setRow x5 (V1.cells m) := ⟨_, rfl⟩
      rw [← hw3]
      have k5a : Blk w3 x5 29 (V1.cells m) := by rw [hw3]; exact setRow_heap wz x5 _ (V1.cells m) _ _ k4
      have ot3 : ∀ k, k ≠ x5 → w3.heap[k]? = wz.heap[k]? := fun k hk => by
        rw [hw3]
        simp only [World.setRow, Array.getElem?_modify]
        rw [if_neg (fun e => hk e.symm)]
      have sz3 : w3.heap.size = wz.heap.size := by rw [hw3]; simp
      have k6a : Blk w3 x6 49 zeroT := (ot3 x6 (Ne.symm hne)).trans k5
      have hb3 : Below X0.heap.size X0 w3 := by
        have h1 := bt hb0 (Nat.le_refl _) (hw.mono (Nat.le_refl _))
        exact ⟨by rw [hw3]; exact h1.os, by rw [hw3]; exact h1.tape, by rw [hw3]; exact h1.output, by rw [sz3]; exact h1.size, fun k hk => (ot3 k (by omega)).trans (h1.block k hk)⟩
      have kc3 := k1.box k4 (.inl rfl) ot3
      have kt3 := k3.box k4 (.inl rfl) ot3
      have kl3 := k7.box k4 (.inl rfl) ot3
      clear hw3 ot3
      unfold chainP
      have ho7 : ∃ o, ops[11]? = some o ∧ o.guard = none ∧ o.op = .store 49 (.tmp 6) (.tmp 20) ∧ o.dst = none := by rw [hops]; exact ⟨_, rfl, rfl, rfl, rfl⟩
      obtain ⟨o, ho1, ho2, ho3, ho4⟩ := ho7
      refine wpOp_of ho1 ho2 ?_
      refine wp_store_row 49 (.tmp 6) (.tmp 20) ho3 x6 (U1.cells lp) (by exact e5) (by exact e3) 49 _ k6a (by kernel_rfl) rfl (one_own kt3) ?_
      rw [ho4]
      clear ho1 ho2 ho3 ho4 o
      obtain ⟨w5, hw5⟩ : ∃ w5, w5 = w3.setRow x6 (U1.cells lp) := ⟨_, rfl⟩
      rw [← hw5]
      have l6 : Blk w5 x6 49 (U1.cells lp) := by rw [hw5]; exact setRow_heap w3 x6 _ (U1.cells lp) _ _ k6a
      have ot5 : ∀ k, k ≠ x6 → w5.heap[k]? = w3.heap[k]? := fun k hk => by
        rw [hw5]
        simp only [World.setRow, Array.getElem?_modify]
        rw [if_neg (fun e => hk e.symm)]
      have sz5 : w5.heap.size = w3.heap.size := by rw [hw5]; simp
      have l5 : Blk w5 x5 29 (V1.cells m) := (ot5 x5 hne).trans k5a
      have hb5 : Below X0.heap.size X0 w5 := ⟨by rw [hw5]; exact hb3.os, by rw [hw5]; exact hb3.tape, by rw [hw5]; exact hb3.output, by rw [sz5]; exact hb3.size, fun k hk => (ot5 k (by omega)).trans (hb3.block k hk)⟩
      have kc5 := kc3.box k6a (.inr rfl) ot5
      have kt5 := kt3.box k6a (.inr rfl) ot5
      have kl5 := kl3.box k6a (.inr rfl) ot5
      have hold := HOLD w5 hb5
      have hBK : BK w w5 ⟨Vi, Vl, Vo, Vb, Vc, Vj, Vf, Va, Vs, Vt⟩ C (backCells X mx lv iv tv ⟨Si, Sr⟩ lp u) lv iv tv u L I T M ⟨Si, Sr⟩ t x5 x6 V1 us U1 (f 7) := by
        have h9 := bt hXB (Nat.le_refl _) hb5
        refine ⟨?_, hold.2.2.2.2, ?_, ?_, ⟨B1, kc5⟩, kt5.in_, ⟨B3, kl5⟩, hold.1, HBI.out.l.below h9, HBI.out.i.below h9, HBI.out.tt.below h9, hold.2.2.1, hold.2.1, h9⟩
        · rw [HMM.out.1]; exact hold.2.2.2.1
        · rw [HMM.out.1]; exact l5
        · rw [HMM.out.2]; exact l6
      have HBK := Lib.hid hBK
      unfold chainP
      have ho8 : ∃ o, ops[12]? = some o ∧ o.guard = none ∧ o.op = .assign (.tmp 23) ∧ o.dst = some 7 := by rw [hops]; exact ⟨_, rfl, rfl, rfl, rfl⟩
      obtain ⟨o, ho1, ho2, ho3, ho4⟩ := ho8
      refine wpOp_of ho1 ho2 ?_
      refine wp_assign ho3 ?_
      rw [ho4]
      clear ho1 ho2 ho3 ho4 o hops HBA HB HND2 HND3
      unfold chainP
      clear hw5 ot5 hsp kc3 kt3 kl3 k4 k5 k5a k6a hb3 hw hb0 hw0 h4 h5 hold hBK kc5 kt5 kl5 l5 l6 hb5 sz3 sz5 hne k1 k3 k7
      rw [e1, e3, e4, e5]
      first
        | (go_meet; exact ⟨x5, x6, V1, us, U1, rfl, rfl, HBK.out⟩)
        | (simp only [Act.put, Act.eval, List.setIfInBounds_toArray, List.set_cons_zero, List.set_cons_succ]; go_meet; exact ⟨x5, x6, V1, us, U1, rfl, rfl, HBK.out⟩)
        | (go_wp2_with (fail); go_meet; exact ⟨x5, x6, V1, us, U1, rfl, rfl, HBK.out⟩)
        | (trace_state; fail)
  case rest =>
    obtain ⟨gi, gt, U, us, R, rfl, rfl, hbk⟩ := hcut
    obtain ⟨lA, ln, lc, hle⟩ := lent_form hbk
    subst hle
    obtain ⟨Ri, Rr⟩ := R
    have HX := Lib.hid hbk
    have HB := Lib.hid (Below.refl wc.heap.size wc)
    clear hbk
    generalize hX9 : wc = Y at *
    clear hX9
    have HC := Lib.hid (HX.out.below HB.out)
    go_upto_region 3 with (first
      | (refine wpList_load_row rfl 29 (.tmp 5) rfl (gi) rfl 29 (CV.cells U m) (0, 0) _ (tk2 HC.out.ci HMM.out.1) Try.underlying29 rfl (by kernel_rfl) ?_)
      | (refine wpList_load_part rfl 34 (.tmp 26) rfl (w.heap.size + 1) 0 rfl [.int .i64 mx, X.i, X.l, X.o, X.b, X.c, X.j, X.f, X.a, X.s, X.t, lv, iv, tv] _ (blk_part HC.out.k 0 _ (fun j hj => by match j, hj with | 0, _ => rfl | 1, _ => rfl | 2, _ => rfl | 3, _ => rfl | 4, _ => rfl | 5, _ => rfl | 6, _ => rfl | 7, _ => rfl | 8, _ => rfl | 9, _ => rfl | 10, _ => rfl | 11, _ => rfl | 12, _ => rfl | 13, _ => rfl)) Try.underlying34 rfl (by kernel_rfl) ?_)
      | (refine wpList_load_row rfl 49 (.tmp 6) rfl (gt) rfl 49 (TV.cells ⟨Ri, Rr⟩ lp) (0, 0) _ (tk HC.out.ti HMM.out.2) Try.underlying49 rfl (by kernel_rfl) ?_)
      | (go_at_call 17; obtain ⟨Bl, hlx⟩ := HC.out.lc; refine (HTR.out _ _ _ hlx.in_ HC.out.ri HC.out.rt HC.out.r).mono ?_; rintro e w3 ⟨hb, A, rfl, ha⟩; obtain ⟨Ai, Ar⟩ := A; have HA := Lib.hid ha; have HA0 := Lib.hid HB.out.size; have HE0 := Lib.hid hb.size; have HNA := Lib.hid (Blk.new w3 49 #[.slice none 0 0, .slice none 0 0, .int .i64 0]); have HA1 : Hid ((TV.cells ⟨Ai, Ar⟩ tl).all (·.oneCell') = true) := Lib.hid (one_own ha); have HBN := Lib.hid (bt HB.out (Nat.le_refl _) hb); clear HB; have HB := HBN; clear HBN; clear ha hlx)
      | (refine wpList_store_row rfl 49 (.tmp 8) (.tmp 30) rfl w3.heap.size (TV.cells ⟨Ai, Ar⟩ tl) rfl rfl 49 _ HNA.out (by kernel_rfl) rfl HA1.out ?_))
    have hnr := newRowB w3 #[.slice none 0 0, .slice none 0 0, .int .i64 0] (TV.cells ⟨Ai, Ar⟩ tl) 49
    obtain ⟨W4, hW4⟩ : ∃ W4, (w3.alloc (.cells #[.slice none 0 0, .slice none 0 0, .int .i64 0] 49)).setRow w3.heap.size (TV.cells ⟨Ai, Ar⟩ tl) = W4 := ⟨_, rfl⟩
    rw [hW4] at hnr
    rw [hW4]
    have hb := hnr.1
    have HBA := Lib.hid hb
    have HBN := Lib.hid (bt HB.out (Nat.le_refl _) hb)
    clear HB
    have HB := HBN
    clear HBN
    have HGA := Lib.hid hnr.2.1
    clear hW4 hnr HNA HA1 hb HC
    have HC := Lib.hid (HX.out.below HB.out)
    go_upto_region 4 with (first
      | (refine wpList_load_row rfl 29 (.tmp 2) rfl (w.heap.size) rfl 29 (CV.cells ⟨Vi, Vl, Vo, Vb, Vc, Vj, Vf, Va, Vs, Vt⟩ m) (0, 0) _ (tk2 HC.out.c HMM.out.1) Try.underlying29 rfl (by kernel_rfl) ?_)
      | (refine wpList_load_part rfl 34 (.tmp 34) rfl (w.heap.size + 1) 0 rfl [.int .i64 mx, X.i, X.l, X.o, X.b, X.c, X.j, X.f, X.a, X.s, X.t, lv, iv, tv] _ (blk_part HC.out.k 0 _ (fun j hj => by match j, hj with | 0, _ => rfl | 1, _ => rfl | 2, _ => rfl | 3, _ => rfl | 4, _ => rfl | 5, _ => rfl | 6, _ => rfl | 7, _ => rfl | 8, _ => rfl | 9, _ => rfl | 10, _ => rfl | 11, _ => rfl | 12, _ => rfl | 13, _ => rfl)) Try.underlying34 rfl (by kernel_rfl) ?_)
      | (refine wpList_load_part rfl 49 (.tmp 36) rfl (w.heap.size + 1) 14 rfl [Si, Sr, .int .i64 lp] _ (blk_part HC.out.k 14 _ (fun j hj => by match j, hj with | 0, _ => rfl | 1, _ => rfl | 2, _ => rfl)) Try.underlying49 rfl (by kernel_rfl) ?_)
      | (go_at_call 18; refine (HRT.out _ _ _ HC.out.v HC.out.ri HC.out.rt HC.out.s).mono ?_; rintro e w5 ⟨hb, A2, rfl, ha⟩; obtain ⟨Di, Dr⟩ := A2; have HD := Lib.hid ha; have HND := Lib.hid (Blk.new w5 49 #[.slice none 0 0, .slice none 0 0, .int .i64 0]); have HD1 : Hid ((TV.cells ⟨Di, Dr⟩ tl).all (·.oneCell') = true) := Lib.hid (one_own ha); have HBN := Lib.hid (bt HB.out (Nat.le_refl _) hb); clear HB; have HB := HBN; clear HBN; have THBA := Lib.hid (bt HBA.out (Nat.le_refl _) hb); clear HBA; have HBA := THBA; clear THBA; have hgl := (show Blk W4 w3.heap.size 49 _ from HGA.out); have THGA := Lib.hid (hgl.below hb hgl.lt); clear HGA; have HGA := THGA; clear THGA; clear ha hgl)
      | (refine wpList_store_row rfl 49 (.tmp 10) (.tmp 39) rfl w5.heap.size (TV.cells ⟨Di, Dr⟩ tl) rfl rfl 49 _ HND.out (by kernel_rfl) rfl HD1.out ?_))
    have hnr := newRowB w5 #[.slice none 0 0, .slice none 0 0, .int .i64 0] (TV.cells ⟨Di, Dr⟩ tl) 49
    obtain ⟨W6, hW6⟩ : ∃ W6, (w5.alloc (.cells #[.slice none 0 0, .slice none 0 0, .int .i64 0] 49)).setRow w5.heap.size (TV.cells ⟨Di, Dr⟩ tl) = W6 := ⟨_, rfl⟩
    rw [hW6] at hnr
    rw [hW6]
    have hb := hnr.1
    have HBN := Lib.hid (bt HB.out (Nat.le_refl _) hb)
    clear HB
    have HB := HBN
    clear HBN
    have HBD := Lib.hid hb
    have THBA := Lib.hid (bt HBA.out (Nat.le_refl _) hb)
    clear HBA
    have HBA := THBA
    clear THBA
    have hgl : Blk w5 w3.heap.size 49 _ := HGA.out
    have THGA := Lib.hid (hgl.below hb hgl.lt)
    clear HGA
    have HGA := THGA
    clear THGA
    have HGD := Lib.hid hnr.2.1
    clear hW6 hnr HND HD1 hb HC hgl
    have HC := Lib.hid (HX.out.below HB.out)
    go_upto_region 5 with (first
      | (refine wpList_load_row rfl 29 (.tmp 5) rfl (gi) rfl 29 (CV.cells U m) (0, 0) _ (tk2 HC.out.ci HMM.out.1) Try.underlying29 rfl (by kernel_rfl) ?_)
      | (refine wpList_load_part rfl 34 (.tmp 43) rfl (w.heap.size + 1) 0 rfl [.int .i64 mx, X.i, X.l, X.o, X.b, X.c, X.j, X.f, X.a, X.s, X.t, lv, iv, tv] _ (blk_part HC.out.k 0 _ (fun j hj => by match j, hj with | 0, _ => rfl | 1, _ => rfl | 2, _ => rfl | 3, _ => rfl | 4, _ => rfl | 5, _ => rfl | 6, _ => rfl | 7, _ => rfl | 8, _ => rfl | 9, _ => rfl | 10, _ => rfl | 11, _ => rfl | 12, _ => rfl | 13, _ => rfl)) Try.underlying34 rfl (by kernel_rfl) ?_)
      | (go_at_call 19; obtain ⟨Bl, hlx⟩ := HC.out.lc; obtain ⟨Bm, hly⟩ := HC.out.ll; refine (HLM.out _ _ _ hlx.in_ HC.out.rl hly.reads).mono ?_; rintro e w7 ⟨hb, KA, Kn, Kc, rfl, ho⟩; have HK := Lib.hid ho; clear ho; have HBN := Lib.hid (bt HB.out (Nat.le_refl _) hb); clear HB; have HB := HBN; clear HBN; have HBC := Lib.hid hb; clear hlx hly))
    have HE3 : Hid (w3.heap.size ≤ W6.heap.size) := Lib.hid HBA.out.size
    have HYE : Hid (Y.heap.size ≤ W6.heap.size) := Lib.hid (Nat.le_trans HA0.out (Nat.le_trans HE0.out HE3.out))
    have hb := HBC.out
    have THBA := Lib.hid (bt HBA.out (Nat.le_refl _) hb)
    clear HBA
    have HBA := THBA
    clear THBA
    have THBD := Lib.hid (bt HBD.out (Nat.le_refl _) hb)
    clear HBD
    have HBD := THBD
    clear THBD
    have hgl : Blk W6 w3.heap.size 49 _ := HGA.out
    have THGA := Lib.hid (hgl.below hb hgl.lt)
    clear HGA
    have HGA := THGA
    clear THGA
    have hgl2 : Blk W6 w5.heap.size 49 _ := HGD.out
    have THGD := Lib.hid (hgl2.below hb hgl2.lt)
    clear HGD
    have HGD := THGD
    clear THGD
    clear hb hgl hgl2 HBC HC
    have HC := Lib.hid (HX.out.below HB.out)
    obtain ⟨k14, k15, k16, k17⟩ := back_cells HC.out.k
    go_upto_region 6 with (first
      | (refine wpList_load_row rfl 29 (.tmp 2) rfl (w.heap.size) rfl 29 (CV.cells ⟨Vi, Vl, Vo, Vb, Vc, Vj, Vf, Va, Vs, Vt⟩ m) (0, 0) _ (tk2 HC.out.c HMM.out.1) Try.underlying29 rfl (by kernel_rfl) ?_)
      | (refine wpList_load_part rfl 34 (.tmp 51) rfl (w.heap.size + 1) 0 rfl [.int .i64 mx, X.i, X.l, X.o, X.b, X.c, X.j, X.f, X.a, X.s, X.t, lv, iv, tv] _ (blk_part HC.out.k 0 _ (fun j hj => by match j, hj with | 0, _ => rfl | 1, _ => rfl | 2, _ => rfl | 3, _ => rfl | 4, _ => rfl | 5, _ => rfl | 6, _ => rfl | 7, _ => rfl | 8, _ => rfl | 9, _ => rfl | 10, _ => rfl | 11, _ => rfl | 12, _ => rfl | 13, _ => rfl)) Try.underlying34 rfl (by kernel_rfl) ?_)
      | (go_at_call 20; refine (HRL.out _ _ _ HC.out.v HC.out.rl HC.out.rm).mono ?_; rintro e w8 ⟨hb, QA, Qn, Qc, rfl, ho⟩; have HQ := Lib.hid ho; clear ho; have HBN := Lib.hid (bt HB.out (Nat.le_refl _) hb); clear HB; have HB := HBN; clear HBN; have HBC := Lib.hid hb))
    have hb := HBC.out
    have THBA := Lib.hid (bt HBA.out (Nat.le_refl _) hb)
    clear HBA
    have HBA := THBA
    clear THBA
    have THBD := Lib.hid (bt HBD.out (Nat.le_refl _) hb)
    clear HBD
    have HBD := THBD
    clear THBD
    have THK := Lib.hid (own_below HK.out hb)
    clear HK
    have HK := THK
    clear THK
    have hgl : Blk w7 w3.heap.size 49 _ := HGA.out
    have THGA := Lib.hid (hgl.below hb hgl.lt)
    clear HGA
    have HGA := THGA
    clear THGA
    have hgl2 : Blk w7 w5.heap.size 49 _ := HGD.out
    have THGD := Lib.hid (hgl2.below hb hgl2.lt)
    clear HGD
    have HGD := THGD
    clear THGD
    clear hb hgl hgl2 HBC HC k14 k15 k16 k17
    go_upto_region 8 with (first
      | (refine wpList_load_row rfl 49 (.tmp 8) rfl (w3.heap.size) rfl 49 (TV.cells ⟨Ai, Ar⟩ tl) (0, 0) _ HGA.out Try.underlying49 rfl (by kernel_rfl) ?_)
      | (refine wpList_load_row rfl 49 (.tmp 10) rfl (w5.heap.size) rfl 49 (TV.cells ⟨Di, Dr⟩ tl) (0, 0) _ HGD.out Try.underlying49 rfl (by kernel_rfl) ?_)
      | (go_at_call 21; refine (HSM2.out _ _ _ (HA.out.below HBA.out).in_ (HD.out.below HBD.out).in_).mono ?_; rintro e w9 ⟨rfl, hb⟩; have HBN := Lib.hid (bt HB.out (Nat.le_refl _) hb); clear HB; have HB := HBN; clear HBN; have THBA := Lib.hid (bt HBA.out (Nat.le_refl _) hb); clear HBA; have HBA := THBA; clear THBA; have THK := Lib.hid (own_below HK.out hb); clear HK; have HK := THK; clear THK; have THQ := Lib.hid (own_below HQ.out hb); clear HQ; have HQ := THQ; clear THQ; have hgl : Blk w8 w3.heap.size 49 _ := HGA.out; have THGA := Lib.hid (hgl.below hb hgl.lt); clear HGA; have HGA := THGA; clear THGA; clear hb hgl)
      | (go_at_call 22; refine (HSI.out _ _ _ (own_iRowB HK.out) (own_iRowB HQ.out)).mono ?_; rintro e w10 ⟨rfl, hb⟩; have HBN := Lib.hid (bt HB.out (Nat.le_refl _) hb); clear HB; have HB := HBN; clear HBN; have THBA := Lib.hid (bt HBA.out (Nat.le_refl _) hb); clear HBA; have HBA := THBA; clear THBA; have THK := Lib.hid (own_below HK.out hb); clear HK; have HK := THK; clear THK; have hgl : Blk w9 w3.heap.size 49 _ := HGA.out; have THGA := Lib.hid (hgl.below hb hgl.lt); clear HGA; have HGA := THGA; clear THGA; clear hb hgl))
    clear HGD HD HBD HQ
    have HSP := Lib.hid (SpoilTrace_any w3 w10 Y.heap.size ⟨Ai, Ar⟩ tr (HA.out.base HA0.out) HBA.out)
    rw [HTL.out] at HSP
    go_upto_region 9 with (first
      | (refine wpList_load_row rfl 49 (.tmp 8) rfl (w3.heap.size) rfl 49 (TV.cells ⟨Ai, Ar⟩ tl) (0, 0) _ HGA.out Try.underlying49 rfl (by kernel_rfl) ?_)
      | (go_at_call 23; refine HSP.out.mono ?_; rintro e w11 ⟨rfl, hm⟩; have HBN : Hid (Below Y.heap.size Y w11) := Lib.hid ⟨hm.os.trans HB.out.os, hm.tape.trans HB.out.tape, hm.output.trans HB.out.output, Nat.le_trans HB.out.size hm.size, fun k hk => (hm.block k (Nat.lt_of_lt_of_le hk HB.out.size) (.inl hk)).trans (HB.out.block k hk)⟩; have HKN := Lib.hid (own_of_block HK.out (fun g hg => hm.block g (HK.out.lt g hg).2 (.inr (Nat.le_trans HE3.out (HK.out.lt g hg).1)))); clear HB HK hm; have HB := HBN; have HK := HKN; clear HBN HKN))
    clear HGA HA HBA HSP
    go_upto_region 10 with (go_at_call 12; refine (SpoilInts_any _ _ _ _ _ _ HK.out).mono ?_; rintro e w12 ⟨rfl, hgr⟩; have HBN := Lib.hid (HB.out.grown hgr HB.out.size (fun k hk => Nat.le_trans HYE.out (HK.out.lt k hk).1)); clear HB hgr; have HB := HBN; clear HBN)
    clear HK
    have HC := Lib.hid (HX.out.below HB.out)
    obtain ⟨k14, k15, k16, k17⟩ := back_cells HC.out.k
    obtain ⟨y0, y1, y2⟩ := trio_of (tk HC.out.ti HMM.out.2)
    go_wp2_with (first
      | (refine wpList_load_row rfl 29 (.tmp 5) rfl (gi) rfl 29 (CV.cells U m) (0, 0) _ (tk2 HC.out.ci HMM.out.1) Try.underlying29 rfl (by kernel_rfl) ?_)
      | (refine wpList_load_row rfl 29 (.tmp 2) rfl (w.heap.size) rfl 29 (CV.cells ⟨Vi, Vl, Vo, Vb, Vc, Vj, Vf, Va, Vs, Vt⟩ m) (0, 0) _ (tk2 HC.out.c HMM.out.1) Try.underlying29 rfl (by kernel_rfl) ?_)
      | (go_at_call 13; obtain ⟨Bl, hlx⟩ := HC.out.lc; refine (HKEPT.out _ _ _ _ _ hlx HC.out.v).mono ?_; rintro e w13 ⟨rfl, hb⟩; have HBN := Lib.hid (bt HB.out (Nat.le_refl _) hb); clear HB; have HB := HBN; clear HBN; clear hb hlx HC k14 k15 k16 k17 y0 y1 y2; have HC := Lib.hid (HX.out.below HB.out); obtain ⟨k14, k15, k16, k17⟩ := back_cells HC.out.k; obtain ⟨y0, y1, y2⟩ := trio_of (tk HC.out.ti HMM.out.2))
      | (go_at_call 21; refine (HSAME.out _ _ _ HC.out.r HC.out.s).mono ?_; rintro e w14 ⟨rfl, hb⟩; have HBN := Lib.hid (bt HB.out (Nat.le_refl _) hb); clear HB; have HB := HBN; clear HBN; clear hb HC k14 k15 k16 k17 y0 y1 y2; have HC := Lib.hid (HX.out.below HB.out); obtain ⟨k14, k15, k16, k17⟩ := back_cells HC.out.k)
      | (go_at_call 24; obtain ⟨Bm, hly⟩ := HC.out.ll; refine (HKI.out _ _ _ _ hly HC.out.rm).mono ?_; rintro e w15 ⟨rfl, hb⟩; have HBN := Lib.hid (bt HB.out (Nat.le_refl _) hb); clear HB; have HB := HBN; clear HBN; clear hb HC hly k14 k15 k16 k17; have HC := Lib.hid (HX.out.below HB.out))
      | (go_at_call 14; refine (worksC_any _).mono ?_; rintro e w16 ⟨rfl, hb⟩; have HBN := Lib.hid (bt HB.out (Nat.le_refl _) hb); clear HB; have HB := HBN; clear HBN; clear hb HC; have HC := Lib.hid (HX.out.below HB.out)))
    go_ret
    exact ⟨rfl, HC.out.b⟩
end Go.Proofs.Ytagffmalmkcboaa

/- Ascii: Head. -/
import Derived.Test.YtkkolefhfmlhfabDoorAscZ
namespace Go.Proofs.YtkkolefhfmlhfabDoor
open Go.RowKit

set_option maxHeartbeats 2000000 in
set_option maxRecDepth 100000 in
theorem headD_panicking (g : Nat) (w : World) (a e u0 u1 : Int) (older : List PanicEntry) (hb : Blk w g 25 #[.int .i64 u0, .int .i64 u1]) :
    CallsD Tryd.prog 20 #[.pointer (some ⟨g, 0, none⟩)] (.panicking ({ v := .iface 25 (flt a e), recovered := false } :: older)) w fun x u' w' => x = .returned (.tuple #[]) ∧ u' = .panicking ({ v := .iface 25 (flt a e), recovered := true } :: older) ∧ w.grownBy w' (some g) ∧ Blk w' g 25 #[.int .i64 a, .int .i64 e] := by
  refine callsD_of_wpS Tryd.func20 rfl fun c₀ cs hu => ?_
  apply wpS_region
  simp [wpOpsS, go_sem, recoverD, hu, Tryd.ntmps20]
  refine (faultOf_fault w a e).mono ?_
  rintro x w1 ⟨rfl, hb1⟩
  have hk := Blk.below hb hb1 (Blk.lt hb)
  have c0 : w1.cell? ⟨g, 0, none⟩ = some (.int .i64 u0) := hk.cell 0
  have c1 : w1.cell? ⟨g, 1, none⟩ = some (.int .i64 u1) := hk.cell 1
  have f0 := Blk.frozen hk 0
  have f1 := Blk.frozen hk 1
  simp [go_sem, c0, c1, f0, f1, bodyPostS, results, Tryd.results20]
  exact ⟨gb_set (gb_set (gb_below (World.grownBy.refl w (some g)) hb1) 0 _) 1 _, Blk.set_ (Blk.set_ hk 0 _) 1 _⟩
set_option maxHeartbeats 2000000 in
set_option maxRecDepth 100000 in
theorem headD_idle (g : Nat) (w : World) (u0 u1 : Int) (hb : Blk w g 25 #[.int .i64 u0, .int .i64 u1]) :
    CallsD Tryd.prog 20 #[.pointer (some ⟨g, 0, none⟩)] .returning w fun x u' w' => x = .returned (.tuple #[]) ∧ u' = .returning ∧ w.grownBy w' (some g) ∧ Blk w' g 25 #[.int .i64 0, .int .i64 0] := by
  refine callsD_of_wpS Tryd.func20 rfl fun c₀ cs hu => ?_
  apply wpS_region
  simp [wpOpsS, go_sem, recoverD, hu, Tryd.ntmps20]
  refine (faultOf_nil w).mono ?_
  rintro x w1 ⟨rfl, hb1⟩
  have hk := Blk.below hb hb1 (Blk.lt hb)
  have c0 : w1.cell? ⟨g, 0, none⟩ = some (.int .i64 u0) := hk.cell 0
  have c1 : w1.cell? ⟨g, 1, none⟩ = some (.int .i64 u1) := hk.cell 1
  have f0 := Blk.frozen hk 0
  have f1 := Blk.frozen hk 1
  simp [go_sem, c0, c1, f0, f1, bodyPostS, results, Tryd.results20]
  exact ⟨.returning, by rw [← hu], rfl, gb_set (gb_set (gb_below (World.grownBy.refl w (some g)) hb1) 0 _) 1 _, Blk.set_ (Blk.set_ hk 0 _) 1 _⟩
theorem results_head {fn : Func} {a b c q : Tmp} {ty2 : TypeId} {P : Program} (h : fn.results = #[.tmp a, .tmp b, .tmp c, .cell q ty2]) (tmps : Array Value) (w : World) (va vb vc : Value) (ha : tmps.getD a undef = va) (hb : tmps.getD b undef = vb) (hc : tmps.getD c undef = vc)
    (g2 : Nat) (t2 : TypeId) (cs2 : Array Value) (fr2 : Nat × Nat) (d2 : TypeDesc)
    (hp2 : tmps.getD q undef = .pointer (some ⟨g2, 0, none⟩)) (hg2 : w.heap[g2]? = some (.cells cs2 t2 fr2))
    (hu2 : P.underlying ty2 = some d2) (hd2 : (match d2 with | .struct _ | .array _ _ => true | _ => false) = true) (hi2 : (P.info? ty2).map (·.size) = some cs2.size) :
    (results fn tmps).run P w = .ok (.tuple #[va, vb, vc, .agg cs2]) w := by
  have ha' : tmps[a]?.getD undef = va := by simpa using ha
  have hb' : tmps[b]?.getD undef = vb := by simpa using hb
  have hc' : tmps[c]?.getD undef = vc := by simpa using hc
  have hp2' : tmps[q]?.getD undef = .pointer (some ⟨g2, 0, none⟩) := by simpa using hp2
  have hl2 := run_loadVar_row w g2 t2 ty2 cs2 fr2 d2 hg2 hu2 (by cases d2 <;> first | rfl | exact hd2) hi2
  simp [results, h, ha', hb', hc', hp2', asAddr, hl2]
/-- What Head answers. -/
def HeadAns (w : World) (s : Bs) (e : Ending) (w' : World) : Prop := match (if 262144 < s.length then .error 2 else headA s : Except Int (Bs × List Nat × Bs)) with
  | .error k => e = .returned (.tuple #[.string ⟨#[]⟩, .slice none 0 0, .int .i64 0, flt 0 k])
  | .ok (wd, c, r) => ∃ g, e = .returned (.tuple #[.string (strB wd), .slice (some ⟨g, 0, none⟩) 9 9, .int .i64 ((s.length - r.length : Nat) : Int), flt 0 0]) ∧ w.heap.size ≤ g ∧ Nums w' g (intsA c)
set_option maxHeartbeats 4000000 in
set_option maxRecDepth 100000 in
/-- The header was given up: the face's end. -/
theorem head_door (w : World) (tmps : Array Value) (wc : World) (R : Ending → World → Prop) (k e : Int) (h2 : tmps.getD 2 undef = .string ⟨#[]⟩) (h3 : tmps.getD 3 undef = .slice none 0 0) (h4 : tmps.getD 4 undef = .int .i64 0) (h5 : tmps.getD 5 undef = .pointer (some ⟨w.heap.size, 0, none⟩))
    (hb : Below w.heap.size w wc) (hf : Blk wc w.heap.size 25 #[.int .i64 0, .int .i64 0]) (hR : ∀ x w', Below w.heap.size w w' → x = .returned (.tuple #[.string ⟨#[]⟩, .slice none 0 0, .int .i64 0, flt k e]) → R x w') :
    bodyPostD Tryd.prog Tryd.f8 R (Exit.panic [{ v := .iface 25 (.agg #[.int .i64 k, .int .i64 e]), recovered := false }]) { tmps := tmps, defers := [{ target := Target.fn (Fn.func 20) #[.pointer (some ⟨w.heap.size, 0, none⟩)], args := #[] }] } wc := by
  refine leaves_cons (f := 20) (args := #[.pointer (some ⟨w.heap.size, 0, none⟩)]) (by simp) (by simp [go_sem]) ?_
  refine (headD_panicking w.heap.size wc k e 0 0 [] hf).mono ?_
  rintro x u' w2 ⟨rfl, rfl, hg, hbk⟩
  have hb2 : Below w.heap.size w w2 := ⟨hg.os.trans hb.os, hg.tape.trans hb.tape, hg.output.trans hb.output, Nat.le_trans hb.size hg.size, fun j hj => (hg.block j (Nat.lt_of_lt_of_le hj hb.size) (fun e => by injection e with e; omega)).trans (hb.block j hj)⟩
  have hres := results_head (fn := Tryd.f8) (P := Tryd.prog) rfl tmps w2 _ _ _ h2 h3 h4 w.heap.size 25 #[.int .i64 k, .int .i64 e] (0, 0) _ h5 hbk Tryd.underlying25 rfl (by kernel_rfl)
  simp only [settle]
  exact ⟨_, hres, hR _ _ hb2 rfl⟩
set_option maxHeartbeats 4000000 in
set_option maxRecDepth 100000 in
theorem head_door_ok (w : World) (tmps : Array Value) (wc : World) (R : Ending → World → Prop) (va vb vc : Value) (h2 : tmps.getD 2 undef = va) (h3 : tmps.getD 3 undef = vb) (h4 : tmps.getD 4 undef = vc) (h5 : tmps.getD 5 undef = .pointer (some ⟨w.heap.size, 0, none⟩))
    (hf : Blk wc w.heap.size 25 #[.int .i64 0, .int .i64 0]) (hR : ∀ w', wc.grownBy w' (some w.heap.size) → R (.returned (.tuple #[va, vb, vc, flt 0 0])) w') :
    Leaves Tryd.prog Tryd.f8 tmps R [{ target := Target.fn (Fn.func 20) #[.pointer (some ⟨w.heap.size, 0, none⟩)], args := #[] }] .returning wc := by
  refine leaves_cons (f := 20) (args := #[.pointer (some ⟨w.heap.size, 0, none⟩)]) (by simp) (by simp [go_sem]) ?_
  refine (headD_idle w.heap.size wc 0 0 hf).mono ?_
  rintro x u' w2 ⟨rfl, rfl, hg, hbk⟩
  have hres := results_head (fn := Tryd.f8) (P := Tryd.prog) rfl tmps w2 va vb vc h2 h3 h4 w.heap.size 25 #[.int .i64 0, .int .i64 0] (0, 0) _ h5 hbk Tryd.underlying25 rfl (by kernel_rfl)
  exact ⟨_, hres, hR _ hg⟩
set_option maxHeartbeats 8000000 in
set_option maxRecDepth 100000 in
theorem Head_any (w : World) (B : Nat) (s : Bs) (hm : s.length ≤ 9223372036854775807) (lib : LibB B w) (hB : B ≤ w.heap.size) :
    Calls Tryd.prog 8 #[.string (strB s)] w fun e w' => Below w.heap.size w w' ∧ HeadAns w s e w' := by
  have hmf : ∀ (fn : Fn) (first cap : Array Value) (wx : World), (Instr.makeFunc fn first cap).run Tryd.prog wx = .ok (.func fn first cap) wx := fun _ _ _ _ => rfl
  obtain ⟨w1, hw1⟩ : ∃ z9, w.alloc (.cells #[.int .i64 0, .int .i64 0] 25) = z9 := ⟨_, rfl⟩
  have HW1 := Lib.hid hw1
  have hb1 : Below w.heap.size w w1 := by rw [← hw1]; exact (Below.refl _ _).alloc (Nat.le_refl _) _
  have HB1 := Lib.hid hb1
  have HF1 : Hid (Blk w1 w.heap.size 25 #[.int .i64 0, .int .i64 0]) := Lib.hid (by rw [← hw1]; exact Blk.new _ _ _)
  have hs1 : w1.heap.size = w.heap.size + 1 := by rw [← hw1]; simp
  by_cases hl : 262144 < s.length
  · have HCS := Lib.hid (fun wx => checkSize_long wx s hl hm)
    have HR : Hid (∀ x w', x = .returned (.tuple #[.string ⟨#[]⟩, .slice none 0 0, .int .i64 0, flt 0 2]) → HeadAns w s x w') := Lib.hid (fun x w' h => by
      unfold HeadAns
      rw [if_pos hl]
      exact h)
    clear hw1 hb1 lib hl
    generalize strB s = t at HCS ⊢
    go_enter_defers Tryd.func8, Tryd.ntmps8
    go_upto_region 2 with (fail)
    (try rw [HW1.out])
    go_wp2_with (go_at_call 22; refine (HCS.out _).mono ?_; rintro e w3 ⟨rfl, hw9⟩; have hw8 := hw9.symm; subst hw8)
    exact head_door w _ _ _ 0 2 rfl rfl rfl rfl HB1.out HF1.out (fun x w' q1 q2 => ⟨q1, HR.out x w' q2⟩)
  · have HCS := Lib.hid (fun wx => checkSize_ok wx s (by omega))
    have HHD := Lib.hid (header_any w1 B s (by omega) (lib.up hB hb1) (by omega))
    obtain ⟨q, hq⟩ : ∃ q, headA s = q := ⟨_, rfl⟩
    rw [hq] at HHD
    have HA : Hid (∀ x w', (match q with
        | .error k => x = .returned (.tuple #[.string ⟨#[]⟩, .slice none 0 0, .int .i64 0, flt 0 k])
        | .ok (wd, c, r) => ∃ g, x = .returned (.tuple #[.string (strB wd), .slice (some ⟨g, 0, none⟩) 9 9, .int .i64 ((s.length - r.length : Nat) : Int), flt 0 0]) ∧ w.heap.size ≤ g ∧ Nums w' g (intsA c)) → HeadAns w s x w') := Lib.hid (fun x w' h => by
      unfold HeadAns
      rw [if_neg hl, hq]
      exact h)
    clear hw1 hb1 lib hl hq
    cases q with
    | error k =>
      go_enter_defers Tryd.func8, Tryd.ntmps8
      go_upto_region 2 with (fail)
      (try rw [HW1.out])
      go_wp2_with (first
        | (go_at_call 22; refine (HCS.out _).mono ?_; rintro e w3 ⟨rfl, hw9⟩; have hw8 := hw9.symm; subst hw8)
        | (go_at_call 23; refine HHD.out.mono ?_; rintro e w3 ⟨hb, he⟩; have he2 : e = pan 0 k := he; subst he2; have HB3 := Lib.hid hb; clear hb he))
      exact head_door w _ _ _ 0 k rfl rfl rfl rfl (bt HB1.out (Nat.le_refl _) HB3.out) (HF1.out.below HB3.out (by omega)) (fun x w' q1 q2 => ⟨q1, HA.out x w' q2⟩)
    | ok y =>
      obtain ⟨wd, c, r⟩ := y
      have HHD2 : Hid (Calls Tryd.prog 23 #[.string (strB s)] w1 fun e w' => Below w1.heap.size w1 w' ∧ ∃ g, e = .returned (.tuple #[.string (strB wd), .slice (some ⟨g, 0, none⟩) 9 9, .int .i64 ((s.length - r.length : Nat) : Int)]) ∧ w1.heap.size ≤ g ∧ Nums w' g (intsA c)) := HHD
      have HFF : Hid (∀ w3, Below w1.heap.size w1 w3 → Blk w3 w.heap.size 25 #[.int .i64 0, .int .i64 0]) := Lib.hid (fun w3 hb => HF1.out.below hb (by omega))
      clear HHD
      obtain ⟨p, hp⟩ : ∃ p : Nat, s.length - r.length = p := ⟨_, rfl⟩
      rw [hp] at HHD2
      have HP := Lib.hid hp
      clear hp
      go_enter_defers Tryd.func8, Tryd.ntmps8
      go_upto_region 2 with (fail)
      (try rw [HW1.out])
      go_wp2_with (first
        | (go_at_call 22; refine (HCS.out _).mono ?_; rintro e w3 ⟨rfl, hw9⟩; have hw8 := hw9.symm; subst hw8)
        | (go_at_call 23; refine HHD2.out.mono ?_; rintro e w3 ⟨hb, g, rfl, hg, hn⟩; have HB3 := Lib.hid hb; have HG3 := Lib.hid hg; have HN3 := Lib.hid hn; have HF3 := Lib.hid (HFF.out w3 hb); clear hb hg hn)
        | (refine wpList_store_row rfl 25 (.tmp 5) (.tmp 18) rfl w.heap.size #[.int .i64 0, .int .i64 0] rfl rfl 25 #[.int .i64 0, .int .i64 0] HF3.out (by kernel_rfl) rfl (by simp [Value.oneCell']) ?_))
      refine head_door_ok w _ _ _ (.string (strB wd)) (.slice (some ⟨g, 0, none⟩) 9 9) (.int .i64 (p : Int)) rfl rfl rfl rfl (setRow_heap _ _ #[.int .i64 0, .int .i64 0] #[.int .i64 0, .int .i64 0] _ _ HF3.out) ?_
      intro w' hgw
      have hbx : Below w.heap.size w w' := below_gbA (below_BE (bt HB1.out (Nat.le_refl _) HB3.out) (Nat.le_refl _) (BE.of_row (E := fun k => k = w.heap.size) _ rfl) (fun k q1 q2 => by omega)) (Nat.le_refl _) (Nat.le_refl _) hgw
      have hgg := HG3.out
      refine ⟨hbx, HA.out _ _ ⟨g, by rw [HP.out], by omega, ?_⟩⟩
      exact (hgw.block g (by rw [size_setRow]; exact Blk.lt HN3.out) (fun e => by injection e with e; omega)).trans ((setRow_other _ _ _ _ (by omega)).trans HN3.out)
end Go.Proofs.YtkkolefhfmlhfabDoor

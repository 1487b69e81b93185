/- Ascii: Read. -/
import Derived.Test.YtkkolefhfmlhfabDoorAscU
namespace Go.Proofs.YtkkolefhfmlhfabDoor
open Go.RowKit

theorem results_cellU {fn : Func} {p q : Tmp} {ty ty2 : TypeId} {P : Program} (h : fn.results = #[.cell p ty, .cell q ty2]) (tmps : Array Value) (w : World) (g : Nat) (t : TypeId) (cs : Array Value) (fr : Nat × Nat) (d : TypeDesc)
    (hp : tmps.getD p undef = .pointer (some ⟨g, 0, none⟩)) (hg : w.heap[g]? = some (.cells cs t fr))
    (hu : P.underlying ty = some d) (hd : (match d with | .struct _ | .array _ _ => true | _ => false) = true) (hi : (P.info? ty).map (·.size) = some cs.size)
    (g2 : Nat) (t2 : TypeId) (cs2 : Array Value) (fr2 : Nat × Nat) (d2 : TypeDesc)
    (hp2 : tmps.getD q undef = .pointer (some ⟨g2, 0, none⟩)) (hg2 : w.heap[g2]? = some (.cells cs2 t2 fr2))
    (hu2 : P.underlying ty2 = some d2) (hd2 : (match d2 with | .struct _ | .array _ _ => true | _ => false) = true) (hi2 : (P.info? ty2).map (·.size) = some cs2.size) :
    (results fn tmps).run P w = .ok (.tuple #[.agg cs, .agg cs2]) w := by
  have hp' : tmps[p]?.getD undef = .pointer (some ⟨g, 0, none⟩) := by simpa using hp
  have hp2' : tmps[q]?.getD undef = .pointer (some ⟨g2, 0, none⟩) := by simpa using hp2
  have hl := run_loadVar_row w g t ty cs fr d hg hu (by cases d <;> first | rfl | exact hd) hi
  have hl2 := run_loadVar_row w g2 t2 ty2 cs2 fr2 d2 hg2 hu2 (by cases d2 <;> first | rfl | exact hd2) hi2
  simp [results, h, hp', hp2', asAddr, hl, hl2]

/-- What Read answers, a fault. -/
def FaultE (k : Int) (e : Int) (x : Ending) : Prop := x = .returned (.tuple #[.agg circ0, flt k e])
set_option maxHeartbeats 4000000 in
set_option maxRecDepth 100000 in
/-- Reading was given up: the face's end. -/
theorem read_door (w : World) (tmps : Array Value) (wc : World) (R : Ending → World → Prop) (k e : Int) (h2 : tmps.getD 2 undef = .pointer (some ⟨w.heap.size, 0, none⟩)) (h3 : tmps.getD 3 undef = .pointer (some ⟨w.heap.size + 1, 0, none⟩))
    (hb : Below w.heap.size w wc) (hc : Blk wc w.heap.size 44 circ0) (hf : Blk wc (w.heap.size + 1) 25 #[.int .i64 0, .int .i64 0]) (hR : ∀ x w', Below w.heap.size w w' → FaultE k e x → R x w') :
    bodyPostD Tryd.prog Tryd.f16 R (Exit.panic [{ v := .iface 25 (.agg #[.int .i64 k, .int .i64 e]), recovered := false }]) { tmps := tmps, defers := [{ target := Target.fn (Fn.func 31) #[.pointer (some ⟨w.heap.size + 1, 0, none⟩)], args := #[] }] } wc := by
  refine leaves_cons (f := 31) (args := #[.pointer (some ⟨w.heap.size + 1, 0, none⟩)]) (by simp) (by simp [go_sem]) ?_
  refine (readD_panicking (w.heap.size + 1) wc k e 0 0 [] hf).mono ?_
  rintro x u' w2 ⟨rfl, rfl, hg, hbk⟩
  have hc2 : Blk w2 w.heap.size 44 circ0 := (hg.block _ (Blk.lt hc) (fun e => by injection e with e; omega)).trans hc
  have hb2 : Below w.heap.size w w2 := ⟨hg.os.trans hb.os, hg.tape.trans hb.tape, hg.output.trans hb.output, Nat.le_trans hb.size hg.size, fun j hj => (hg.block j (Nat.lt_of_lt_of_le hj hb.size) (fun e => by injection e with e; omega)).trans (hb.block j hj)⟩
  have hres := results_cellU (fn := Tryd.f16) (P := Tryd.prog) rfl tmps w2 w.heap.size 44 circ0 (0, 0) _ h2 hc2 Tryd.underlying44 rfl (by kernel_rfl) (w.heap.size + 1) 25 #[.int .i64 k, .int .i64 e] (0, 0) _ h3 hbk Tryd.underlying25 rfl (by kernel_rfl)
  simp only [settle]
  exact ⟨_, hres, hR _ _ hb2 rfl⟩
set_option maxHeartbeats 4000000 in
set_option maxRecDepth 100000 in
/-- Reading came to its end: the face's end. -/
theorem read_door_ok (w : World) (tmps : Array Value) (wc : World) (R : Ending → World → Prop) (CC : Array Value) (h2 : tmps.getD 2 undef = .pointer (some ⟨w.heap.size, 0, none⟩)) (h3 : tmps.getD 3 undef = .pointer (some ⟨w.heap.size + 1, 0, none⟩))
    (hsz : (Tryd.prog.info? 44).map (·.size) = some CC.size) (hc : Blk wc w.heap.size 44 CC) (hf : Blk wc (w.heap.size + 1) 25 #[.int .i64 0, .int .i64 0]) (hR : ∀ w', wc.grownBy w' (some (w.heap.size + 1)) → R (.returned (.tuple #[.agg CC, flt 0 0])) w') :
    Leaves Tryd.prog Tryd.f16 tmps R [{ target := Target.fn (Fn.func 31) #[.pointer (some ⟨w.heap.size + 1, 0, none⟩)], args := #[] }] .returning wc := by
  refine leaves_cons (f := 31) (args := #[.pointer (some ⟨w.heap.size + 1, 0, none⟩)]) (by simp) (by simp [go_sem]) ?_
  refine (readD_idle (w.heap.size + 1) wc 0 0 hf).mono ?_
  rintro x u' w2 ⟨rfl, rfl, hg, hbk⟩
  have hc2 : Blk w2 w.heap.size 44 CC := (hg.block _ (Blk.lt hc) (fun e => by injection e with e; omega)).trans hc
  have hres := results_cellU (fn := Tryd.f16) (P := Tryd.prog) rfl tmps w2 w.heap.size 44 CC (0, 0) _ h2 hc2 Tryd.underlying44 rfl hsz (w.heap.size + 1) 25 #[.int .i64 0, .int .i64 0] (0, 0) _ h3 hbk Tryd.underlying25 rfl (by kernel_rfl)
  exact ⟨_, hres, hR _ hg⟩
set_option maxHeartbeats 8000000 in
set_option maxRecDepth 100000 in
/-- A text that is too long. -/
theorem Read_long (w : World) (s : Bs) (h : 262144 < s.length) (hm : s.length ≤ 9223372036854775807) :
    Calls Tryd.prog 16 #[.string (strB s)] w fun e w' => Below w.heap.size w w' ∧ FaultE 0 2 e := by
  have hmf : ∀ (fn : Fn) (first cap : Array Value) (wx : World), (Instr.makeFunc fn first cap).run Tryd.prog wx = .ok (.func fn first cap) wx := fun _ _ _ _ => rfl
  have HCS := Lib.hid (fun wx => checkSize_long wx s h hm)
  generalize strB s = t at HCS ⊢
  go_enter_defers Tryd.func16, Tryd.ntmps16
  go_wp2_with (go_at_call 22; refine (HCS.out _).mono ?_; rintro e w1 ⟨rfl, rfl⟩)
  exact read_door w _ _ _ 0 2 rfl rfl (((Below.refl _ _).alloc (Nat.le_refl _) _).alloc (by simp) _) ((Blk.new w _ _).alloc _) (by
    have h9 := Blk.new (w.alloc (.cells circ0 44)) 25 #[.int .i64 0, .int .i64 0]
    rwa [show (w.alloc (.cells circ0 44)).heap.size = w.heap.size + 1 by simp] at h9) (fun e w' hb he => ⟨hb, he⟩)
/-- But for some blocks nothing has turned. -/
structure BE (E : Nat → Prop) (w w' : World) : Prop where
  os : w'.os = w.os
  tape : w'.tape = w.tape
  output : w'.output = w.output
  size : w.heap.size ≤ w'.heap.size
  block : ∀ k, k < w.heap.size → ¬ E k → w'.heap[k]? = w.heap[k]?
section
variable {E : Nat → Prop} {w w1 w2 : World} {B : Nat}
theorem BE.trans (h : BE E w w1) (h2 : BE E w1 w2) : BE E w w2 :=
  ⟨h2.os.trans h.os, h2.tape.trans h.tape, h2.output.trans h.output, Nat.le_trans h.size h2.size, fun k hk hE => (h2.block k (Nat.lt_of_lt_of_le hk h.size) hE).trans (h.block k hk hE)⟩
theorem BE.of_below (h : Below w.heap.size w w1) : BE E w w1 := ⟨h.os, h.tape, h.output, h.size, fun k hk _ => h.block k hk⟩
theorem BE.of_grown {b : Nat} (h : w.grownBy w1 (some b)) (hb : E b) : BE E w w1 := ⟨h.os, h.tape, h.output, h.size, fun k hk hE => h.block k hk (fun e => by injection e with e; exact hE (e ▸ hb))⟩
theorem BE.blk {g : Nat} {t : TypeId} {cs : Array Value} (h : BE E w w1) (hb : Blk w g t cs) (hE : ¬ E g) : Blk w1 g t cs := (h.block g (Blk.lt hb) hE).trans hb
theorem BE.inn {g : Nat} {gs : List Nat} {xss : List (List Nat)} (h : BE E w w1) (hi : InnJ w g gs xss) (hE : ∀ k, g ≤ k → k < w.heap.size → ¬ E k) : InnJ w1 g gs xss :=
  ⟨hi.len, hi.up, fun g' hg' => ⟨(hi.lt g' hg').1, Nat.lt_of_lt_of_le (hi.lt g' hg').2 h.size⟩, fun i g' xs q1 q2 => by
    have hm := hi.lt g' (List.mem_of_getElem? q1)
    exact h.blk (hi.nums i g' xs q1 q2) (hE g' (by omega) hm.2)⟩
theorem BE.circ {V : CV} {i o b c f : List Nat} {l a : List (Nat × Nat × Nat)} {j : List (List Nat)} (h : BE E w w1) (hm : CircM B w V i l o b c j f a) (hE : ∀ k, B ≤ k → k < w.heap.size → ¬ E k) : CircM B w1 V i l o b c j f a := by
  obtain ⟨⟨g1, a1, b1, c1⟩, ⟨g2, a2, b2, c2⟩, ⟨g3, a3, b3, c3⟩, ⟨g4, a4, b4, c4⟩, ⟨g5, a5, b5, c5⟩, ⟨g6, gs, a6, b6, c6, d6⟩, ⟨g7, a7, b7, c7⟩, ⟨g8, a8, b8, c8⟩, zs, zt⟩ := hm
  exact ⟨⟨g1, a1, b1, h.blk c1 (hE g1 b1 (Blk.lt c1))⟩, ⟨g2, a2, b2, h.blk c2 (hE g2 b2 (Blk.lt c2))⟩, ⟨g3, a3, b3, h.blk c3 (hE g3 b3 (Blk.lt c3))⟩, ⟨g4, a4, b4, h.blk c4 (hE g4 b4 (Blk.lt c4))⟩, ⟨g5, a5, b5, h.blk c5 (hE g5 b5 (Blk.lt c5))⟩, ⟨g6, gs, a6, b6, h.blk c6 (hE g6 b6 (Blk.lt c6)), h.inn d6 fun k hk => hE k (by omega)⟩, ⟨g7, a7, b7, h.blk c7 (hE g7 b7 (Blk.lt c7))⟩, ⟨g8, a8, b8, h.blk c8 (hE g8 b8 (Blk.lt c8))⟩, zs, zt⟩
theorem BE.own {t : TypeId} {k n : Nat} {v : Value} {xs : List Value} (h : BE E w w1) (ho : w.ownsRow B t k v n xs) (hE : ∀ g, B ≤ g → g < w.heap.size → ¬ E g) : w1.ownsRow B t k v n xs :=
  own_of_block ho fun g hg => h.block g (ho.lt g hg).2 (hE g (ho.lt g hg).1 (ho.lt g hg).2)
end
/-- A circuit that was read, in memory. -/
def ReadM (B : Nat) (w : World) (V : CV) (C : Circ) : Prop :=
  ∃ (m : Nat) (i : List Nat) (l : List (Nat × Nat × Nat)) (o b c : List Nat) (j : List (List Nat)) (f : List Nat) (a : List (Nat × Nat × Nat)) (ss : List SyA) (ls : List Bs) (V0 : CV),
    C = circR m i l o b c j f a ss ls ∧ m ≤ 16384 ∧ FitA i l o b c j f a ∧ (∀ y ∈ ss, y.2.1 ≤ M31 ∧ y.2.2.length ≤ 262144) ∧ CircM B w V0 i l o b c j f a ∧
    w.ownsRow B 38 3 V.s ss.length (cellsY ss) ∧ w.ownsRow B 9 1 V.t ls.length (ls.map svA) ∧ V = ⟨V0.i, V0.l, V0.o, V0.b, V0.c, V0.j, V0.f, V0.a, V.s, V.t⟩
theorem ReadM.in_ {B : Nat} {w : World} {V : CV} {C : Circ} (h : ReadM B w V C) : C.In w V := by
  obtain ⟨m, i, l, o, b, c, j, f, a, ss, ls, V0, rfl, _, fit, _, hm, hs, ht, hv⟩ := h
  rw [hv]
  exact circ_in hm fit hs ht
theorem ReadM.ok {B : Nat} {w : World} {V : CV} {C : Circ} (h : ReadM B w V C) : C.Ok := by
  obtain ⟨m, i, l, o, b, c, j, f, a, ss, ls, V0, rfl, h1, fit, h2, _⟩ := h
  exact circ_ok h1 fit h2
/-- What Read answers. -/
def ReadAns (w : World) (s : Bs) (e : Ending) (w' : World) : Prop := match circA s with
  | .error k => FaultE (k.1 : Nat) k.2 e
  | .ok C => ((checkR C).2 ≠ 0 → FaultE 0 (checkR C).2 e) ∧ ((checkR C).2 = 0 → ∃ V, e = .returned (.tuple #[V.val C.max, flt 0 0]) ∧ ReadM w.heap.size w' V C)
end Go.Proofs.YtkkolefhfmlhfabDoor

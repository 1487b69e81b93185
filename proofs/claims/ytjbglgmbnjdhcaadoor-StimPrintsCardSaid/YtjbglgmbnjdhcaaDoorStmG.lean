/- Stim: the lines of a trace. -/
import Derived.Test.YtjbglgmbnjdhcaaDoorStmF
import Derived.Test.YtjbglgmbnjdhcaaDoorRunC
import Derived.Test.YtjbglgmbnjdhcaaDoorTrnF
namespace Go.Proofs.YtjbglgmbnjdhcaaDoor
open Go.RowKit

section
variable {P : Program} {md : Region.Mode} {ops : Array Oper} {Q : Exit → Act → World → Prop} {S : World → Prop} {n : Nat}
/-- An operation that is not wanted is passed over, whenever it is its turn. -/
theorem wpAnyT_skip {i : Nat} {oi : Oper} {fuel : Nat} {listed : Array Bool} {a : Act} {w : World} (hi : ops[i]? = some oi)
    (hc : (decide (i < n) && Region.noSelect ops && Region.free md ops listed i && (Region.ready md ops listed).contains i && lastB md ops n i) = true)
    (hQ : ∀ c a w, Q (.panic c) (a.put oi.dst undef) w → Q (.panic c) a w) (hw : Region.wanted oi (yielded ops a.tmps) = false) (hS : S w)
    (h : wpAnyT P md ops Q S n fuel (listed.setIfInBounds i true) (a.put oi.dst undef) w) : wpAnyT P md ops Q S n (fuel + 1) listed a w := by
  simp only [Bool.and_eq_true, decide_eq_true_eq] at hc
  obtain ⟨⟨⟨⟨c1, c2⟩, c3⟩, c4⟩, c5⟩ := hc
  exact wpAnyT_first hi c1 (Region.noSelect_spec c2) (lastB_spec c5) hQ fuel listed a w (Region.free_spec hi c3) (by simpa using c4) (.inr ⟨hw, rfl⟩) hS h
end
/-- The world's first blocks alone. -/
def truncW (w : World) (B : Nat) : World := { w with heap := w.heap.extract 0 B }
theorem truncW_size {w : World} {B : Nat} (h : B ≤ w.heap.size) : (truncW w B).heap.size = B := by simp [truncW]; omega
theorem truncW_below {w : World} {B : Nat} (h : B ≤ w.heap.size) : Below B (truncW w B) w :=
  ⟨rfl, rfl, rfl, by rw [truncW_size h]; exact h, fun k hk => by
    simp only [truncW, Array.getElem?_extract]
    rw [if_pos (by omega), Nat.zero_add]⟩
theorem own_turned {w w2 : World} {b B : Nat} {e : TypeId} {z n : Nat} {v : Value} {xs : List Value} (ho : w.ownsRow B e z v n xs) (hg : w.grownBy w2 (some b)) (hb : b < B) : w2.ownsRow B e z v n xs := ho.kept hg (by
  cases hv : v.ownBlock with
  | none => exact .inl rfl
  | some k => exact .inr (fun e => by injection e with e; have := (ho.lt k hv).1; omega))
theorem OwnT.turned {w w2 : World} {b B : Nat} {t : Tr} {U : TV} (h : OwnT w B t U) (hg : w.grownBy w2 (some b)) (hb : b < B) : OwnT w2 B t U := by
  obtain ⟨us, h1, h2, h3⟩ := h.ex
  exact ⟨own_turned h.i hg hb, us, h1, own_turned h2 hg hb, fun i u zs hu hz => own_turned (h3 i u zs hu hz) hg hb⟩
theorem gb_setRow {w w1 : World} {row : Option Nat} {g : Nat} {cs : Array Value} (h : w.grownBy w1 row) (hg : w.heap.size ≤ g) : w.grownBy (w1.setRow g cs) row :=
  ⟨h.os, h.tape, h.output, by rw [size_setRow]; exact h.size, fun k hk hne => (setRow_other _ _ _ _ (by omega)).trans (h.block k hk hne)⟩
theorem gb_setNew {w w1 : World} {row : Option Nat} {g i : Nat} {v : Value} (h : w.grownBy w1 row) (hg : w.heap.size ≤ g) : w.grownBy (w1.setCell ⟨g, i, none⟩ v) row :=
  ⟨h.os, h.tape, h.output, by simpa using h.size, fun k hk hne => (Below.heap_setCell _ _ _ _ (by simp; omega)).trans (h.block k hk hne)⟩
theorem gb_low {w w1 w2 : World} {row : Option Nat} (h : w.grownBy w1 row) (hb : Below w.heap.size w1 w2) : w.grownBy w2 row :=
  ⟨hb.os.trans h.os, hb.tape.trans h.tape, hb.output.trans h.output, Nat.le_trans h.size hb.size, fun k hk hne => (hb.block k hk).trans (h.block k hk hne)⟩
theorem aft_lt {s a r : Bs} {q : Nat} (h : lnB (s.drop q) = (a, r)) (hne : a ≠ [10]) (hq : q ≤ s.length) : q < aftB s q := by
  obtain ⟨e, _, _⟩ := lnB_of h hne
  have h2 : (s.drop q).length = a.length + 1 + r.length := by rw [e]; simp; omega
  rw [List.length_drop] at h2
  unfold aftB
  rw [h]
  simp only
  omega
theorem newRowT (w : World) (old new : Array Value) (t : TypeId) : Below w.heap.size w ((w.alloc (.cells old t)).setRow w.heap.size new) ∧ ((w.alloc (.cells old t)).setRow w.heap.size new).heap[w.heap.size]? = some (.cells new t (0, 0)) ∧ ((w.alloc (.cells old t)).setRow w.heap.size new).heap.size = w.heap.size + 1 := by
  have h1 : Below w.heap.size w (w.alloc (.cells old t)) := (Below.refl _ _).alloc (Nat.le_refl _) _
  have h2 : (w.alloc (.cells old t)).heap[w.heap.size]? = some (.cells old t (0, 0)) := Blk.new w t old
  exact ⟨⟨h1.os, h1.tape, h1.output, by rw [size_setRow]; exact h1.size, fun k hk => (setRow_other _ _ _ _ (by omega)).trans (h1.block k hk)⟩, setRow_heap _ _ _ _ _ _ h2, by rw [size_setRow]; simp⟩
theorem far_row {w : World} {g k : Nat} {t : TypeId} {cs ds : Array Value} (h : Blk w k t cs) (hne : k ≠ g) : Blk (w.setRow g ds) k t cs := (setRow_other _ _ _ _ hne).trans h
theorem strB_dot (a : Bs) : ((strB a).toList == [46]) = decide (a = [46]) := by
  rw [strB_toList]
  by_cases h : a = [46]
  · subst h; rfl
  · simp [h]
theorem build_tr (A : Option Addr) (n c : Nat) (z : Int) (w : World) : (Instr.build 26 #[(0, .slice A n c), (2, .int .i64 z)]).run Tryd.prog w = .ok (.agg #[.slice A n c, .slice none 0 0, .int .i64 z]) w := run_build w _ _ _ (by kernel_rfl)
theorem build_tr0 (w : World) : (Instr.build 26 #[]).run Tryd.prog w = .ok (.agg #[.slice none 0 0, .slice none 0 0, .int .i64 0]) w := by kernel_rfl
theorem Rd.row {w : World} {b g : Nat} {s : Bs} {p l L n : Nat} {cs : Array Value} (h : Rd w b s p l L n) (hne : b ≠ g) : Rd (w.setRow g cs) b s p l L n := (setRow_other _ _ _ _ hne).trans h
theorem Rd.cellN {w : World} {b g i : Nat} {v : Value} {s : Bs} {p l L n : Nat} (h : Rd w b s p l L n) (hne : b ≠ g) : Rd (w.setCell ⟨g, i, none⟩ v) b s p l L n := (Below.heap_setCell _ _ _ _ (by simpa using hne)).trans h
/-- A trace that is made stands when a block below it turns. -/
theorem CT.turned {W0 wr w2 : World} {b g : Nat} {iv ov : Value} {lp : Int} {ini : List Bool} {us : List Value} {rows : List (List Bool)} (h : CT W0 wr g iv ov lp ini us rows) (hg : wr.grownBy w2 (some b)) (hb : b < W0.heap.size) :
    ∃ W1, W1.heap.size = W0.heap.size ∧ CT W1 w2 g iv ov lp ini us rows := by
  have hsz : W0.heap.size ≤ w2.heap.size := Nat.le_trans h.below.size hg.size
  have key : ∀ {e : TypeId} {z n : Nat} {v : Value} {xs : List Value}, wr.ownsRow W0.heap.size e z v n xs → w2.ownsRow W0.heap.size e z v n xs := fun ho => ho.kept hg (by
    cases hv : (Value.ownBlock _) with
    | none => exact .inl rfl
    | some k => exact .inr (fun e => by injection e with e; have := (ho.lt k hv).1; omega))
  refine ⟨truncW w2 W0.heap.size, truncW_size hsz, ?_⟩
  have e := truncW_size hsz
  have hlt := h.lt
  constructor
  · rw [e]; exact truncW_below hsz
  · rw [e]; exact h.lt
  · exact (hg.block g (Blk.lt h.blk) (fun e2 => by injection e2 with e2; omega)).trans h.blk
  · rw [e]; exact key h.i
  · exact h.len
  · rw [e]; exact key h.o
  · intro i u zs hu hz
    rw [e]; exact key (h.each i u zs hu hz)
theorem CT.own {W0 wr : World} {g : Nat} {iv ov : Value} {lp : Int} {ini : List Bool} {us : List Value} {rows : List (List Bool)} (h : CT W0 wr g iv ov lp ini us rows) (lp2 : Int) : OwnT wr W0.heap.size ⟨ini, rows, lp2⟩ ⟨iv, ov⟩ := ⟨h.i, us, h.len, h.o, h.each⟩
theorem OwnT.boxT {w w' : World} {B b : Nat} {tr : Tr} {U : TV} {cs : Array Value} (h : OwnT w B tr U) (hb : Blk w b 26 cs) (ho : ∀ k, k ≠ b → w'.heap[k]? = w.heap[k]?) : OwnT w' B tr U := by
  have own : ∀ {e : TypeId} {z n : Nat} {v : Value} {xs : List Value}, e ≠ 26 → w.ownsRow B e z v n xs → w'.ownsRow B e z v n xs := fun he h0 => own_of_block h0 fun g hg => ho g (fun e => own_blk_ne h0 hb he (by rw [hg, e]))
  obtain ⟨us, h1, h2, h3⟩ := h.ex
  exact ⟨own (by decide) h.i, us, h1, own (by decide) h2, fun i u zs hu hz => own (by decide) (h3 i u zs hu hz)⟩
/-- What reading a trace's lines comes to. -/
def TrPost (w : World) (b : Nat) (s : Bs) (L n : Nat) (R : Option (Tr × Bs)) (e : Ending) (w' : World) : Prop :=
  w.grownBy w' (some b) ∧ ∃ (U : TV) (lp : Int) (p' l' : Nat), (∃ A k c A2 k2 c2, U = ⟨.slice A k c, .slice A2 k2 c2⟩) ∧ Rd w' b s p' l' L n ∧ p' ≤ s.length ∧ l' ≤ s.length ∧ e = .returned (.tuple #[U.val lp, .bool R.isSome]) ∧ ∀ t r, R = some (t, r) → lp = t.loop ∧ s.drop p' = r ∧ OwnT w' w.heap.size t U
theorem lnB_short {s a r : Bs} (h : lnB s = (a, r)) (hs : s.length ≤ 262144) : a.length ≤ 262144 := by
  rcases lnB_cases s with ⟨h1, _⟩ | ⟨a', r', h1, h2, _, _⟩
  · rw [h] at h1
    injection h1 with h1
    rw [h1]
    simp
  · rw [h] at h1
    injection h1 with h1
    subst h1
    rw [h2] at hs
    simp at hs
    omega
theorem traceF_one {n K : Nat} {rows : List (List Bool)} {s a r : Bs} (h : lnB s = (a, r)) (hK : s.length < K) : traceF n K rows s =
    (if a = [46] then (if 0 < rows.length then some (rows, -1, r) else none) else
    match loopB a with
    | some tq => if tq < rows.length ∧ (lnB r).1 = [46] then some (rows, (tq : Int), (lnB r).2) else none
    | none => match rowB n a with
      | none => none
      | some row => if rows.length = 512 then none else traceF n (K - 1) (rows ++ [row]) r) := by
  obtain ⟨k, rfl⟩ : ∃ j, K = j + 1 := ⟨K - 1, by omega⟩
  rw [traceF, h]
  rfl
set_option maxHeartbeats 8000000 in
set_option maxRecDepth 100000 in
theorem trace_any (w : World) (B b : Nat) (s : Bs) (p l L n : Nat) (h : Rd w b s p l L n) (hp : p ≤ s.length) (hs : s.length ≤ 262144) (hLn : L ≤ 16384 ∧ n ≤ 16384) (lib : LibB B w) (hB : B ≤ b) :
    Calls Tryd.prog 40 #[.pointer (some ⟨b, 0, none⟩)] w (TrPost w b s L n (bodyB L n (s.drop p))) := by
  have hlt : b < w.heap.size := Blk.lt h
  obtain ⟨iB, hiB, hBz0, hBz1, hBz2⟩ := info_of2 infoBB
  have HIB := Lib.hid (And.intro hiB (And.intro hBz0 (And.intro hBz1 hBz2)))
  clear hiB hBz0 hBz1 hBz2
  have HS := Lib.hid hs
  have HLN := Lib.hid hLn
  have HL0 := Lib.hid lib
  have HLI := Lib.hid (fun (wx : World) (p l : Nat) (hx : Rd wx b s p l L n) (hp : p ≤ s.length) (hl : LibB B wx) => line_any wx B b s p l L n hx hp hs hl hB)
  have HRO := Lib.hid (fun (wx : World) (x : Bs) (k : Nat) (hk : k ≤ 16384) (hx : x.length ≤ 262144) => rowOf_any wx x k hk hx)
  have HUP : Hid (∀ wx, w.grownBy wx (some b) → LibB B wx) := Lib.hid (fun wx hg => lib.on (gb_to hg hB (by omega)))
  have hb0 : Below w.heap.size w (w.alloc (.cells #[.slice none 0 0, .slice none 0 0, .int .i64 0] 26)) := (Below.refl _ _).alloc (Nat.le_refl _) _
  have HZ0 : Hid (Blk (w.alloc (.cells #[.slice none 0 0, .slice none 0 0, .int .i64 0] 26)) w.heap.size 26 #[.slice none 0 0, .slice none 0 0, .int .i64 0]) := Lib.hid (Blk.new w _ _)
  have HR0 := Lib.hid (h.below hb0)
  have HB0 := Lib.hid hb0
  obtain ⟨R, hR⟩ : ∃ R, bodyB L n (s.drop p) = R := ⟨_, rfl⟩
  rw [hR]
  unfold bodyB at hR
  have HR := Lib.hid hR
  clear hR h lib hLn hs
  go_enter Tryd.func40, Tryd.ntmps40
  go_upto_region 1 with (fail)
  generalize w.alloc (.cells #[.slice none 0 0, .slice none 0 0, .int .i64 0] 26) = X at HZ0 HR0 HB0 ⊢
  refine wp_region_T (by kernel_rfl) (fun w' => w'.cell? ⟨b, 3, none⟩ = some (.int .i64 (L : Int))) 12 ?_
  have HD0 : Hid (Below X.heap.size X X.drew) := Lib.hid (Below.refl _ _).drew
  have hHeld : X.drew.cell? ⟨b, 3, none⟩ = some (.int .i64 (L : Int)) := ((HR0.out.below HD0.out).cells).2.2.2.1
  refine wpAnyT_take (i := 0) (oi := { dst := some 13, op := Op.move (Operand.tmp 0), type := 74, pos := "reader.go:61", after := #[], guard := none }) (v := ?v0r1q1) rfl (by kernel_rfl) (fun _ _ _ h => h) (by rfl) hHeld ?h0r1q1 ?_
  case h0r1q1 => (intro w' hSw; (try dsimp only at hSw); go_simp; try with_reducible rfl)
  (try simp only [Act.put, List.setIfInBounds_toArray, List.set_cons_zero, List.set_cons_succ])
  refine wpAnyT_take (i := 2) (oi := { dst := some 15, op := Op.move (Operand.tmp 0), type := 74, pos := "reader.go:61", after := #[], guard := none }) (v := ?v2r1q2) rfl (by kernel_rfl) (fun _ _ _ h => h) (by rfl) hHeld ?h2r1q2 ?_
  case h2r1q2 => (intro w' hSw; (try dsimp only at hSw); go_simp; try with_reducible rfl)
  (try simp only [Act.put, List.setIfInBounds_toArray, List.set_cons_zero, List.set_cons_succ])
  refine wpAnyT_take (i := 3) (oi := { dst := some 16, op := Op.nilCheck (Operand.tmp 15), type := 0, pos := "reader.go:61", after := #[{ on := 2, ground := Ground.data }], guard := none }) (v := ?v3r1q2) rfl (by kernel_rfl) (fun _ _ _ h => h) (by rfl) hHeld ?h3r1q2 ?_
  case h3r1q2 => (intro w' hSw; (try dsimp only at hSw); go_simp; try with_reducible rfl)
  (try simp only [Act.put, List.setIfInBounds_toArray, List.set_cons_zero, List.set_cons_succ])
  refine wpAnyT_take (i := 4) (oi := { dst := some 17, op := Op.fieldAddr 60 (Operand.tmp 16) 3, type := 0, pos := "reader.go:61", after := #[{ on := 3, ground := Ground.data }], guard := none }) (v := ?v4r1q2) rfl (by kernel_rfl) (fun _ _ _ h => h) (by rfl) hHeld ?h4r1q2 ?_
  case h4r1q2 => (intro w' hSw; (try dsimp only at hSw); go_simp; try with_reducible rfl)
  (try simp only [Act.put, List.setIfInBounds_toArray, List.set_cons_zero, List.set_cons_succ])
  refine wpAnyT_take (i := 5) (oi := { dst := some 18, op := Op.load 3 (Operand.tmp 17), type := 3, pos := "reader.go:61", after := #[{ on := 4, ground := Ground.data }], guard := none }) (v := ?v5r1q2) rfl (by kernel_rfl) (fun _ _ _ h => h) (by rfl) hHeld ?h5r1q2 ?_
  case h5r1q2 => (intro w' hSw; (try dsimp only at hSw); go_simp; try with_reducible rfl)
  (try simp only [Act.put, List.setIfInBounds_toArray, List.set_cons_zero, List.set_cons_succ])
  clear hHeld
  refine wpAnyT_one (i := 1) (o := { dst := some 14, op := Op.call { callee := Callee.value (Operand.func 37), args := #[Operand.tmp 13], argTypes := #[74] }, type := 9, pos := "reader.go:61", after := #[{ on := 0, ground := Ground.data }], guard := none }) rfl (by kernel_rfl) (fun K hK => ?_)
  go_simp
  go_at_call 37
  refine (HLI.out X.drew p l (HR0.out.below HD0.out) hp (HUP.out _ (gb_of (bt HB0.out (Nat.le_refl _) HD0.out)))).mono ?_
  rintro e w1 ⟨hg1, rfl, hr1⟩
  have HG1 := Lib.hid (gb_trans (gb_of (row := some b) (bt HB0.out (Nat.le_refl _) HD0.out)) hg1)
  have HZ1 : Hid (Blk w1 w.heap.size 26 #[.slice none 0 0, .slice none 0 0, .int .i64 0]) := Lib.hid ((hg1.block _ (Nat.lt_of_lt_of_le (Blk.lt HZ0.out) HD0.out.size) (fun e => by injection e with e; omega)).trans (HD0.out.block _ (Blk.lt HZ0.out) |>.trans HZ0.out))
  have HR1 := Lib.hid hr1
  have HL1 : Hid (w.heap.size ≤ w1.heap.size) := Lib.hid HG1.out.size
  obtain ⟨a, r, hln⟩ : ∃ a r, lnB (s.drop p) = (a, r) := ⟨_, _, rfl⟩
  have HLNE : Hid (a.length ≤ 262144) := Lib.hid (lnB_short hln (by rw [List.length_drop]; have := HS.out; omega))
  have haf := aftB_ok (s := s) (p := p) hp
  rw [hln] at haf
  rw [hln] at HR
  have e0 : (lnB (s.drop p)).1 = a := by rw [hln]
  rw [e0]
  obtain ⟨q, hq⟩ : ∃ q, aftB s p = q := ⟨_, rfl⟩
  rw [hq] at haf HR1
  have HAF := Lib.hid haf
  refine hK.out _ _ (fun _ => (HR1.out.cells).2.2.2.1) ?_
  clear hK K hg1 hr1 haf hq e0 hln
  (try simp only [Act.put, List.setIfInBounds_toArray, List.set_cons_zero, List.set_cons_succ])
  refine wpAnyT_one (i := 6) (o := { dst := some 19, op := Op.call { callee := Callee.value (Operand.func 50), args := #[Operand.tmp 14, Operand.tmp 18], argTypes := #[9, 3] }, type := 96, pos := "reader.go:61", after := #[{ on := 1, ground := Ground.data }, { on := 5, ground := Ground.data }, { on := 1, ground := Ground.chain }], guard := none }) rfl (by kernel_rfl) (fun K hK => ?_)
  go_simp
  go_at_call 50
  refine (HRO.out w1 a L HLN.out.1 HLNE.out).mono ?_
  rintro e w2 ⟨hb2, v, rfl, hno, hyes⟩
  have HV := Lib.hid (And.intro hno hyes)
  have HG2 := Lib.hid (gb_below HG1.out hb2)
  have HR2 := Lib.hid (HR1.out.below hb2)
  have HB2 := Lib.hid hb2
  have HZ2 := Lib.hid (Blk.below HZ1.out hb2 (Blk.lt HZ1.out))
  refine hK.out _ _ (fun _ => (HR2.out.cells).2.2.2.1) ?_
  clear hK K hno hyes hb2 HR0 HB0 HD0 HZ0 HG1 HR1 HZ1
  (try simp only [Act.put, List.setIfInBounds_toArray, List.set_cons_zero, List.set_cons_succ])
  have hHeld := (HR2.out.cells).2.2.2.1
  refine wpAnyT_take (i := 7) (oi := { dst := some 12, op := Op.move (Operand.tmp 19), type := 96, pos := "reader.go:61", after := #[{ on := 6, ground := Ground.data }], guard := none }) (v := ?v7r1q3) rfl (by kernel_rfl) (fun _ _ _ h => h) (by rfl) hHeld ?h7r1q3 ?_
  case h7r1q3 => (intro w' hSw; (try dsimp only at hSw); go_simp; try with_reducible rfl)
  (try simp only [Act.put, List.setIfInBounds_toArray, List.set_cons_zero, List.set_cons_succ])
  refine wpAnyT_take (i := 8) (oi := { dst := some 20, op := Op.extract (Operand.tmp 12) 0, type := 23, pos := "reader.go:61", after := #[{ on := 7, ground := Ground.data }], guard := none }) (v := ?v8r1q3) rfl (by kernel_rfl) (fun _ _ _ h => h) (by rfl) hHeld ?h8r1q3 ?_
  case h8r1q3 => (intro w' hSw; (try dsimp only at hSw); go_simp; try with_reducible rfl)
  (try simp only [Act.put, List.setIfInBounds_toArray, List.set_cons_zero, List.set_cons_succ])
  refine wpAnyT_take (i := 9) (oi := { dst := some 21, op := Op.extract (Operand.tmp 12) 1, type := 4, pos := "reader.go:61", after := #[{ on := 7, ground := Ground.data }, { on := 10, ground := Ground.gcOnly Departure.lateStores }], guard := none }) (v := ?v9r1q3) rfl (by kernel_rfl) (fun _ _ _ h => h) (by rfl) hHeld ?h9r1q3 ?_
  case h9r1q3 => (intro w' hSw; (try dsimp only at hSw); go_simp; try with_reducible rfl)
  (try simp only [Act.put, List.setIfInBounds_toArray, List.set_cons_zero, List.set_cons_succ])
  clear hHeld
  refine wpAnyT_one (i := 10) (o := { dst := some 4, op := Op.assign (Operand.tmp 20), type := 23, pos := "reader.go:61", after := #[{ on := 8, ground := Ground.data }, { on := 6, ground := Ground.chain }, { on := 0, ground := Ground.phase }, { on := 1, ground := Ground.phase }, { on := 2, ground := Ground.phase }, { on := 3, ground := Ground.phase }, { on := 4, ground := Ground.phase }, { on := 5, ground := Ground.phase }, { on := 6, ground := Ground.phase }, { on := 7, ground := Ground.phase }, { on := 8, ground := Ground.phase }, { on := 9, ground := Ground.textOnly Departure.lateStores }], guard := none }) rfl (by kernel_rfl) (fun K hK => ?_)
  go_simp
  refine hK.out _ _ (fun _ => (HR2.out.cells).2.2.2.1) ?_
  clear hK K
  (try simp only [Act.put, List.setIfInBounds_toArray, List.set_cons_zero, List.set_cons_succ])
  refine wpAnyT_one (i := 11) (o := { dst := some 5, op := Op.assign (Operand.tmp 21), type := 4, pos := "reader.go:61", after := #[{ on := 9, ground := Ground.data }, { on := 10, ground := Ground.chain }, { on := 0, ground := Ground.phase }, { on := 1, ground := Ground.phase }, { on := 2, ground := Ground.phase }, { on := 3, ground := Ground.phase }, { on := 4, ground := Ground.phase }, { on := 5, ground := Ground.phase }, { on := 6, ground := Ground.phase }, { on := 7, ground := Ground.phase }, { on := 8, ground := Ground.phase }, { on := 9, ground := Ground.phase }, { on := 10, ground := Ground.phase }], guard := none }) rfl (by kernel_rfl) (fun K hK => ?_)
  go_simp
  refine hK.out _ _ (fun _ => (HR2.out.cells).2.2.2.1) ?_
  clear hK K
  (try simp only [Act.put, List.setIfInBounds_toArray, List.set_cons_zero, List.set_cons_succ])
  refine wpAnyT_done (by kernel_rfl) ?_
  cases hrow : rowB L a with
  | none =>
    rw [hrow] at HV
    have HN : Hid (R = none) := Lib.hid (by
      have h1 := HR.out
      simp only at h1
      rw [hrow] at h1
      exact h1.symm)
    clear hrow
    have hq0 := HAF.out
    have hbld := build_tr0 w2
    go_wp2_with (refine wpList_store_row rfl 26 (.tmp 2) (.tmp 24) rfl w.heap.size #[.slice none 0 0, .slice none 0 0, .int .i64 0] rfl rfl 26 _ HZ2.out (by kernel_rfl) rfl (by simp [Value.oneCell']) ?_)
    refine bodyPost_ret (results_cellS (fn := Tryd.f40) (p := 2) (q := 3) rfl _ _ w.heap.size 26 #[.slice none 0 0, .slice none 0 0, .int .i64 0] (0, 0) _ rfl (setRow_heap _ _ _ #[.slice none 0 0, .slice none 0 0, .int .i64 0] _ _ HZ2.out) Tryd.underlying26 rfl (by kernel_rfl) (.bool false) rfl) rfl ?_
    exact ⟨gb_setRow HG2.out (Nat.le_refl _), ⟨.slice none 0 0, .slice none 0 0⟩, 0, q, p, ⟨_, _, _, _, _, _, rfl⟩, Rd.row HR2.out (by omega), by omega, by omega, by rw [HN.out]; rfl, fun t r hh => by rw [HN.out] at hh; cases hh⟩
  | some ini =>
    rw [hrow] at HV
    obtain ⟨TF, hTF⟩ : ∃ x, traceF n ((s.drop p).length + 1) [] r = x := ⟨_, rfl⟩
    have HRT : Hid (R = TF.map fun x => (⟨ini, x.1, x.2.1⟩, x.2.2)) := Lib.hid (by
      have h1 := HR.out
      simp only at h1
      rw [hrow, hTF] at h1
      exact h1.symm)
    have hvo := HV.out.2 ini rfl
    obtain ⟨Av, cv, rfl⟩ := own_slice_k hvo
    have HVO := Lib.hid hvo
    have HN4 := Lib.hid (Blk.new w2 26 #[.slice none 0 0, .slice none 0 0, .int .i64 0])
    have hbld := build_tr Av ini.length cv (-1) w2
    clear hvo hrow HV
    go_upto_region 5 with (refine wpList_store_row rfl 26 (.tmp 6) (.tmp 26) rfl w2.heap.size #[.slice Av ini.length cv, .slice none 0 0, .int .i64 (-1)] rfl rfl 26 _ HN4.out (by kernel_rfl) rfl (by simp [Value.oneCell']) ?_)
    have hnr := newRowT w2 #[.slice none 0 0, .slice none 0 0, .int .i64 0] #[.slice Av ini.length cv, .slice none 0 0, .int .i64 (-1)] 26
    obtain ⟨W3, hW3⟩ : ∃ W3, (w2.alloc (.cells #[.slice none 0 0, .slice none 0 0, .int .i64 0] 26)).setRow w2.heap.size #[.slice Av ini.length cv, .slice none 0 0, .int .i64 (-1)] = W3 := ⟨_, rfl⟩
    rw [hW3] at hnr
    rw [hW3]
    obtain ⟨gt, hgt⟩ : ∃ g, w2.heap.size = g := ⟨_, rfl⟩
    have HGT : Hid (w.heap.size + 1 ≤ gt) := Lib.hid (by have := Blk.lt HZ2.out; omega)
    have hct : CT (truncW W3 w.heap.size) W3 gt (.slice Av ini.length cv) (.slice none 0 0) (-1) ini [] [] := by
      have hle : w.heap.size ≤ W3.heap.size := by rw [hnr.2.2]; have := HGT.out; omega
      have e := truncW_size hle
      refine ⟨?_, ?_, ?_, ?_, rfl, World.ownsRow_nil _ _ _ _, fun i u zs hu _ => by simp at hu⟩
      · rw [e]; exact truncW_below hle
      · rw [e]; have := HGT.out; omega
      · rw [← hgt]; exact hnr.2.1
      · rw [e]
        have h1 := own_below HVO.out hnr.1
        exact own_le h1 HL1.out
    have HCT3 := Lib.hid hct
    have HS3 : Hid ((truncW W3 w.heap.size).heap.size = w.heap.size) := Lib.hid (truncW_size (by rw [hnr.2.2]; have := HGT.out; omega))
    have HG3b := Lib.hid (gb_below HG2.out hnr.1)
    have HR3 := Lib.hid (HR2.out.below hnr.1)
    have HZ3 := Lib.hid (Blk.below HZ2.out hnr.1 (Blk.lt HZ2.out))
    rw [hgt]
    have HTF := Lib.hid hTF
    clear hTF hnr hct hW3 hbld hgt HB2 HVO HN4 HR2 HZ2 HG2 HR
    go_loopg [7] (s.length - q) (fun j _ wx => ∃ (q l2 K : Nat) (iv ov : Value) (us : List Value) (rows : List (List Bool)) (W0 : World), j = s.length - q ∧ q ≤ s.length ∧ l2 ≤ s.length ∧ Rd wx b s q l2 L n ∧ Blk wx w.heap.size 26 #[.slice none 0 0, .slice none 0 0, .int .i64 0] ∧ W0.heap.size = w.heap.size ∧ CT W0 wx gt iv ov (-1) ini us rows ∧ rows.length ≤ 512 ∧ (s.drop q).length < K ∧ traceF n K rows (s.drop q) = TF ∧ w.grownBy wx (some b))
    case atStart => exact ⟨q, p, (s.drop p).length + 1, _, _, _, _, _, rfl, HAF.out.2.1, hp, HR3.out, HZ3.out, HS3.out, HCT3.out, by simp, by rw [List.length_drop, List.length_drop]; have := HAF.out.1; omega, by rw [HAF.out.2.2]; exact HTF.out, HG3b.out⟩
    case round =>
      obtain ⟨q, l2, K, iv, ov, us, rows, W0, hj, hq, hl2, hrd, hz, hw0, hct, h512, hK, htf, hgb⟩ := hrel
      subst hj
      obtain ⟨Ai, ci, hie⟩ := own_slice_k hct.i
      subst hie
      obtain ⟨Ao, co, hoe⟩ := own_slice_k hct.o
      subst hoe
      obtain ⟨ni, hni⟩ : ∃ x, ini.length = x := ⟨_, rfl⟩
      obtain ⟨no, hno⟩ : ∃ x, us.length = x := ⟨_, rfl⟩
      rw [hni, hno] at hct
      have HRL : Hid (rows.length = no) := Lib.hid (by rw [← hct.len]; exact hno)
      obtain ⟨a, r, hln⟩ : ∃ a r, lnB (s.drop q) = (a, r) := ⟨_, _, rfl⟩
      have HALE : Hid (a.length ≤ 262144) := Lib.hid (lnB_short hln (by rw [List.length_drop]; have := HS.out; omega))
      have haf := aftB_ok (s := s) (p := q) hq
      have HLT : Hid (a ≠ [10] → q < aftB s q) := Lib.hid (fun hne => aft_lt hln hne hq)
      have htf1 := traceF_one (n := n) (rows := rows) hln hK
      rw [htf] at htf1
      have HLI4 := Lib.hid (HLI.out wr q l2 hrd hq (HUP.out wr hgb))
      rw [hln] at haf HLI4
      obtain ⟨q1, hq1⟩ : ∃ x, aftB s q = x := ⟨_, rfl⟩
      rw [hq1] at haf HLT HLI4
      have HAF4 := Lib.hid haf
      have HTF1 := Lib.hid htf1
      have HKL := Lib.hid hK
      have HZR := Lib.hid hz
      have HGR := Lib.hid hgb
      have HW0 := Lib.hid hw0
      have HCT := Lib.hid hct
      have HNI := Lib.hid hni
      have HNO := Lib.hid hno
      clear hrd hz hw0 hct hK htf htf1 hgb haf hln hq1 hni hno
      go_upto_region 6 with (go_at_call 37; refine HLI4.out.mono ?_; rintro e w4 ⟨hg4, rfl, hr4⟩; have HG4 := Lib.hid hg4; have HR4 := Lib.hid hr4; clear hg4 hr4)
      have HGB := Lib.hid (gb_trans HGR.out HG4.out)
      obtain ⟨W1, hW1, hct4⟩ := HCT.out.turned HG4.out (by rw [HW0.out]; exact hlt)
      rw [HW0.out] at hW1
      have HW1 := Lib.hid hW1
      have HCT4 := Lib.hid hct4
      have HZ4 : Hid (Blk w4 w.heap.size 26 #[.slice none 0 0, .slice none 0 0, .int .i64 0]) := Lib.hid ((HG4.out.block _ (Blk.lt HZR.out) (fun e => by injection e with e; omega)).trans HZR.out)
      have HBG : Hid (b ≠ gt ∧ w.heap.size ≠ gt ∧ b ≠ w.heap.size) := Lib.hid (by have := HGT.out; omega)
      clear hW1 hct4 HG4 HGR HCT HZR HLI4
      have hq10 := HAF4.out
      have hsd := strB_dot a
      obtain ⟨c0, c1, c2⟩ := trio_of HCT4.out.blk
      by_cases h46 : a = [46]
      · rw [decide_eq_true h46] at hsd
        have HT5 : Hid (TF = if 0 < no then some (rows, -1, r) else none) := Lib.hid (by rw [HTF1.out, if_pos h46, HRL.out])
        clear h46
        go_upto_region 7 with (fail)
        clear c0 c1 c2
        refine wp_region_T (by kernel_rfl) (fun w' => w'.cell? ⟨gt, 0, none⟩ = some (.slice Ai ni ci) ∧ w'.cell? ⟨gt, 1, none⟩ = some (.slice Ao no co) ∧ w'.cell? ⟨gt, 2, none⟩ = some (.int .i64 (-1))) 7 ?_
        have HD4 : Hid (Below w4.heap.size w4 w4.drew) := Lib.hid (Below.refl _ _).drew
        have hHeld := trio_of (Blk.below HCT4.out.blk HD4.out (Blk.lt HCT4.out.blk))
        refine wpAnyT_take (i := 0) (oi := { dst := some 31, op := Op.load 26 (Operand.tmp 6), type := 26, pos := "reader.go:69", after := #[], guard := none }) (v := ?v0r7q4) rfl (by kernel_rfl) (fun _ _ _ h => h) (by rfl) hHeld ?h0r7q4 ?_
        case h0r7q4 => (intro w' hSw; (try dsimp only at hSw); go_simp; try with_reducible rfl)
        (try simp only [Act.put, List.setIfInBounds_toArray, List.set_cons_zero, List.set_cons_succ])
        refine wpAnyT_take (i := 1) (oi := { dst := some 32, op := Op.fieldAddr 26 (Operand.tmp 6) 1, type := 0, pos := "reader.go:69", after := #[], guard := none }) (v := ?v1r7q4) rfl (by kernel_rfl) (fun _ _ _ h => h) (by rfl) hHeld ?h1r7q4 ?_
        case h1r7q4 => (intro w' hSw; (try dsimp only at hSw); go_simp; try with_reducible rfl)
        (try simp only [Act.put, List.setIfInBounds_toArray, List.set_cons_zero, List.set_cons_succ])
        refine wpAnyT_take (i := 2) (oi := { dst := some 33, op := Op.load 24 (Operand.tmp 32), type := 24, pos := "reader.go:69", after := #[{ on := 1, ground := Ground.data }], guard := none }) (v := ?v2r7q4) rfl (by kernel_rfl) (fun _ _ _ h => h) (by rfl) hHeld ?h2r7q4 ?_
        case h2r7q4 => (intro w' hSw; (try dsimp only at hSw); go_simp; try with_reducible rfl)
        (try simp only [Act.put, List.setIfInBounds_toArray, List.set_cons_zero, List.set_cons_succ])
        refine wpAnyT_take (i := 3) (oi := { dst := some 34, op := Op.call { callee := Callee.builtin Builtin.len, args := #[Operand.tmp 33], argTypes := #[24] }, type := 3, pos := "reader.go:69", after := #[{ on := 2, ground := Ground.data }], guard := none }) (v := ?v3r7q4) rfl (by kernel_rfl) (fun _ _ _ h => h) (by rfl) hHeld ?h3r7q4 ?_
        case h3r7q4 => (intro w' hSw; (try dsimp only at hSw); go_simp; try with_reducible rfl)
        (try simp only [Act.put, List.setIfInBounds_toArray, List.set_cons_zero, List.set_cons_succ])
        refine wpAnyT_take (i := 4) (oi := { dst := some 35, op := Op.binOp BinOp.gtr 3 (Operand.tmp 34) (Operand.const (Value.int IntKind.i64 0)) 3, type := 4, pos := "reader.go:69", after := #[{ on := 3, ground := Ground.data }, { on := 5, ground := Ground.gcOnly Departure.lateStores }], guard := none }) (v := ?v4r7q4) rfl (by kernel_rfl) (fun _ _ _ h => h) (by rfl) hHeld ?h4r7q4 ?_
        case h4r7q4 => (intro w' hSw; (try dsimp only at hSw); go_simp; try with_reducible rfl)
        (try simp only [Act.put, List.setIfInBounds_toArray, List.set_cons_zero, List.set_cons_succ])
        clear hHeld
        refine wpAnyT_one (i := 5) (o := { dst := none, op := Op.store 26 (Operand.tmp 2) (Operand.tmp 31), type := 0, pos := "reader.go:69", after := #[{ on := 0, ground := Ground.data }, { on := 0, ground := Ground.phase }, { on := 1, ground := Ground.textOnly Departure.lateStores }, { on := 2, ground := Ground.textOnly Departure.lateStores }, { on := 3, ground := Ground.textOnly Departure.lateStoresUnsure }, { on := 4, ground := Ground.textOnly Departure.lateStores }], guard := none }) rfl (by kernel_rfl) (fun K hK => ?_)
        rw [if_pos (by rfl)]
        refine wp_store_row 26 (.tmp 2) (.tmp 31) rfl w.heap.size #[.slice Ai ni ci, .slice Ao no co, .int .i64 (-1)] rfl rfl 26 #[.slice none 0 0, .slice none 0 0, .int .i64 0] (Blk.below HZ4.out HD4.out (Blk.lt HZ4.out)) (by kernel_rfl) rfl (by simp [Value.oneCell']) ?_
        refine hK.out _ _ (fun _ => trio_of (far_row (Blk.below HCT4.out.blk HD4.out (Blk.lt HCT4.out.blk)) HBG.out.2.1.symm)) ?_
        clear hK K
        (try simp only [Act.put])
        refine wpAnyT_one (i := 6) (o := { dst := some 3, op := Op.assign (Operand.tmp 35), type := 4, pos := "reader.go:69", after := #[{ on := 4, ground := Ground.data }, { on := 5, ground := Ground.chain }, { on := 0, ground := Ground.phase }, { on := 1, ground := Ground.phase }, { on := 2, ground := Ground.phase }, { on := 3, ground := Ground.phase }, { on := 4, ground := Ground.phase }, { on := 5, ground := Ground.phase }], guard := none }) rfl (by kernel_rfl) (fun K hK => ?_)
        go_simp
        refine hK.out _ _ (fun _ => trio_of (far_row (Blk.below HCT4.out.blk HD4.out (Blk.lt HCT4.out.blk)) HBG.out.2.1.symm)) ?_
        clear hK K
        (try simp only [Act.put, List.setIfInBounds_toArray, List.set_cons_zero, List.set_cons_succ])
        refine wpAnyT_done (by kernel_rfl) ?_
        have HOT := Lib.hid ((HCT4.out.own (-1)).below HD4.out)
        rw [HW1.out] at HOT
        have HOT2 : Hid (OwnT (w4.drew.setRow w.heap.size #[.slice Ai ni ci, .slice Ao no co, .int .i64 (-1)]) w.heap.size ⟨ini, rows, -1⟩ ⟨.slice Ai ni ci, .slice Ao no co⟩) := Lib.hid (HOT.out.boxT (Blk.below HZ4.out HD4.out (Blk.lt HZ4.out)) (fun k hk => setRow_other _ _ _ _ hk))
        have hbo : decide (0 < no) = R.isSome := by
          rw [HRT.out, HT5.out]
          by_cases h0 : 0 < no
          · rw [if_pos h0, decide_eq_true h0]; rfl
          · rw [if_neg h0, decide_eq_false h0]; rfl
        have HBO := Lib.hid hbo
        clear hbo
        go_wp2
        refine bodyPost_ret (results_cellS (fn := Tryd.f40) (p := 2) (q := 3) rfl _ _ w.heap.size 26 #[.slice Ai ni ci, .slice Ao no co, .int .i64 (-1)] (0, 0) _ rfl (setRow_heap _ _ _ #[.slice Ai ni ci, .slice Ao no co, .int .i64 (-1)] _ _ (Blk.below HZ4.out HD4.out (Blk.lt HZ4.out))) Tryd.underlying26 rfl (by kernel_rfl) (.bool (decide (0 < no))) rfl) rfl ?_
        refine ⟨gb_setRow (gb_below HGB.out HD4.out) (Nat.le_refl _), ⟨.slice Ai ni ci, .slice Ao no co⟩, -1, q1, q, ⟨_, _, _, _, _, _, rfl⟩, Rd.row (HR4.out.below HD4.out) HBG.out.2.2, by omega, by omega, by rw [HBO.out], fun t9 r9 hh => ?_⟩
        rw [HRT.out, HT5.out] at hh
        split at hh
        · injection hh with hh
          injection hh with h1 h2
          subst h1 h2
          exact ⟨rfl, HAF4.out.2.2, HOT2.out⟩
        · cases hh
      · rw [decide_eq_false h46] at hsd
        have HLO := Lib.hid (fun (wx : World) (hb : w.grownBy wx (some b)) => loopOf_any wx B a HALE.out (HUP.out wx hb) (Nat.le_trans hB (Nat.le_trans (by omega) hb.size)))
        cases hlo : loopB a with
        | some tq =>
          rw [hlo] at HLO
          have HT5 : Hid (TF = if tq < no ∧ (lnB r).1 = [46] then some (rows, (tq : Int), (lnB r).2) else none) := Lib.hid (by rw [HTF1.out, if_neg h46, hlo, HRL.out])
          have HTQ : Hid (tq < 16384) := Lib.hid (loopB_some hlo).1
          clear h46 hlo c0 c1 c2
          go_upto_region 10 with (go_at_call 51; refine (HLO.out w4 HGB.out).mono ?_; rintro e w5 ⟨hb, v, rfl, hv⟩; obtain rfl := hv tq rfl; have HB5 := Lib.hid hb; clear hb hv)
          obtain ⟨W5, hW5, hct5⟩ := HCT4.out.turned (gb_of (row := some b) HB5.out) (by rw [HW1.out]; exact hlt)
          rw [HW1.out] at hW5
          have HOT5 := Lib.hid (hct5.own (tq : Int))
          rw [hW5] at HOT5
          have HBK5 := Lib.hid hct5.blk
          have HZ5 := Lib.hid (Blk.below HZ4.out HB5.out (Blk.lt HZ4.out))
          have HR5 := Lib.hid (HR4.out.below HB5.out)
          have HGB5 := Lib.hid (gb_below HGB.out HB5.out)
          obtain ⟨c0, c1, c2⟩ := trio_of HBK5.out
          have f2 : w5.frozen? ⟨gt, 2, none⟩ = false := Blk.frozen HBK5.out 2
          have HBK6 : Hid (Blk (w5.setCell ⟨gt, 2, none⟩ (.int .i64 (tq : Int))) gt 26 #[.slice Ai ni ci, .slice Ao no co, .int .i64 (tq : Int)]) := Lib.hid (Blk.set_ HBK5.out 2 (.int .i64 (tq : Int)))
          have HZ6 : Hid (Blk (w5.setCell ⟨gt, 2, none⟩ (.int .i64 (tq : Int))) w.heap.size 26 #[.slice none 0 0, .slice none 0 0, .int .i64 0]) := Lib.hid (Blk.far HZ5.out HBG.out.2.1 _)
          have HR6 := Lib.hid (HR5.out.cellN (i := 2) (v := .int .i64 (tq : Int)) HBG.out.1)
          have HGB6 : Hid (w.grownBy (w5.setCell ⟨gt, 2, none⟩ (.int .i64 (tq : Int))) (some b)) := Lib.hid (gb_setNew HGB5.out (by have := HGT.out; omega))
          have HOT6 : Hid (OwnT (w5.setCell ⟨gt, 2, none⟩ (.int .i64 (tq : Int))) w.heap.size ⟨ini, rows, (tq : Int)⟩ ⟨.slice Ai ni ci, .slice Ao no co⟩) := Lib.hid (HOT5.out.boxT HBK5.out (fun k hk => Below.heap_setCell _ _ _ _ (by simpa using hk)))
          clear hW5 hct5 HCT4 HZ4 HR4 HGB
          go_upto_region 11 with (fail)
          clear c0 c1 c2 f2
          generalize w5.setCell ⟨gt, 2, none⟩ (.int .i64 (tq : Int)) = w6 at HBK6 HZ6 HR6 HGB6 HOT6 ⊢
          refine wp_region_T (by kernel_rfl) (fun w' => w'.cell? ⟨gt, 0, none⟩ = some (.slice Ai ni ci) ∧ w'.cell? ⟨gt, 1, none⟩ = some (.slice Ao no co) ∧ w'.cell? ⟨gt, 2, none⟩ = some (.int .i64 (tq : Int))) 13 ?_
          have HD6 : Hid (Below w6.heap.size w6 w6.drew) := Lib.hid (Below.refl _ _).drew
          have HBK7 := Lib.hid (Blk.below HBK6.out HD6.out (Blk.lt HBK6.out))
          have HZ7 := Lib.hid (Blk.below HZ6.out HD6.out (Blk.lt HZ6.out))
          have HR7 := Lib.hid (HR6.out.below HD6.out)
          have HGB7 := Lib.hid (gb_below HGB6.out HD6.out)
          have HOT7 := Lib.hid (HOT6.out.below HD6.out)
          clear HBK6 HZ6 HR6 HGB6 HOT6 HBK5 HZ5 HR5 HGB5 HOT5 HB5
          generalize w6.drew = w7 at HBK7 HZ7 HR7 HGB7 HOT7 ⊢
          clear HD6
          have hHeld := trio_of HBK7.out
          refine wpAnyT_take (i := 0) (oi := { dst := some 44, op := Op.load 26 (Operand.tmp 6), type := 26, pos := "reader.go:73", after := #[], guard := none }) (v := ?v0r11q5) rfl (by kernel_rfl) (fun _ _ _ h => h) (by rfl) hHeld ?h0r11q5 ?_
          case h0r11q5 => (intro w' hSw; (try dsimp only at hSw); go_simp; try with_reducible rfl)
          (try simp only [Act.put, List.setIfInBounds_toArray, List.set_cons_zero, List.set_cons_succ])
          refine wpAnyT_take (i := 1) (oi := { dst := some 45, op := Op.move (Operand.tmp 8), type := 3, pos := "reader.go:73", after := #[], guard := none }) (v := ?v1r11q5) rfl (by kernel_rfl) (fun _ _ _ h => h) (by rfl) hHeld ?h1r11q5 ?_
          case h1r11q5 => (intro w' hSw; (try dsimp only at hSw); go_simp; try with_reducible rfl)
          (try simp only [Act.put, List.setIfInBounds_toArray, List.set_cons_zero, List.set_cons_succ])
          refine wpAnyT_take (i := 2) (oi := { dst := some 46, op := Op.fieldAddr 26 (Operand.tmp 6) 1, type := 0, pos := "reader.go:73", after := #[], guard := none }) (v := ?v2r11q5) rfl (by kernel_rfl) (fun _ _ _ h => h) (by rfl) hHeld ?h2r11q5 ?_
          case h2r11q5 => (intro w' hSw; (try dsimp only at hSw); go_simp; try with_reducible rfl)
          (try simp only [Act.put, List.setIfInBounds_toArray, List.set_cons_zero, List.set_cons_succ])
          refine wpAnyT_take (i := 3) (oi := { dst := some 47, op := Op.load 24 (Operand.tmp 46), type := 24, pos := "reader.go:73", after := #[{ on := 2, ground := Ground.data }], guard := none }) (v := ?v3r11q5) rfl (by kernel_rfl) (fun _ _ _ h => h) (by rfl) hHeld ?h3r11q5 ?_
          case h3r11q5 => (intro w' hSw; (try dsimp only at hSw); go_simp; try with_reducible rfl)
          (try simp only [Act.put, List.setIfInBounds_toArray, List.set_cons_zero, List.set_cons_succ])
          refine wpAnyT_take (i := 4) (oi := { dst := some 48, op := Op.call { callee := Callee.builtin Builtin.len, args := #[Operand.tmp 47], argTypes := #[24] }, type := 3, pos := "reader.go:73", after := #[{ on := 3, ground := Ground.data }], guard := none }) (v := ?v4r11q5) rfl (by kernel_rfl) (fun _ _ _ h => h) (by rfl) hHeld ?h4r11q5 ?_
          case h4r11q5 => (intro w' hSw; (try dsimp only at hSw); go_simp; try with_reducible rfl)
          (try simp only [Act.put, List.setIfInBounds_toArray, List.set_cons_zero, List.set_cons_succ])
          refine wpAnyT_take (i := 5) (oi := { dst := some 49, op := Op.binOp BinOp.lss 3 (Operand.tmp 45) (Operand.tmp 48) 3, type := 4, pos := "reader.go:73", after := #[{ on := 1, ground := Ground.data }, { on := 4, ground := Ground.data }], guard := none }) (v := ?v5r11q5) rfl (by kernel_rfl) (fun _ _ _ h => h) (by rfl) hHeld ?h5r11q5 ?_
          case h5r11q5 => (intro w' hSw; (try dsimp only at hSw); go_simp; try with_reducible rfl)
          (try simp only [Act.put, List.setIfInBounds_toArray, List.set_cons_zero, List.set_cons_succ])
          refine wpAnyT_take (i := 6) (oi := { dst := some 50, op := Op.move (Operand.tmp 49), type := 4, pos := "reader.go:73", after := #[{ on := 5, ground := Ground.data }], guard := none }) (v := ?v6r11q5) rfl (by kernel_rfl) (fun _ _ _ h => h) (by rfl) hHeld ?h6r11q5 ?_
          case h6r11q5 => (intro w' hSw; (try dsimp only at hSw); go_simp; try with_reducible rfl)
          (try simp only [Act.put, List.setIfInBounds_toArray, List.set_cons_zero, List.set_cons_succ])
          clear hHeld
          by_cases htn : tq < no
          · have htz : ((tq : Int) < (no : Int)) := by omega
            obtain ⟨a2, r2, hln2⟩ : ∃ x y, lnB r = (x, y) := ⟨_, _, rfl⟩
            have HLI7 := Lib.hid (HLI.out w7 q1 q HR7.out (by omega) (HUP.out w7 HGB7.out))
            have haf2 := aftB_ok (s := s) (p := q1) (by omega)
            rw [HAF4.out.2.2, hln2] at haf2 HLI7
            obtain ⟨q2, hq2⟩ : ∃ x, aftB s q1 = x := ⟨_, rfl⟩
            rw [hq2] at haf2 HLI7
            have HAF7 := Lib.hid haf2
            have hsd2 := strB_dot a2
            have HT6 : Hid (TF = if a2 = [46] then some (rows, (tq : Int), r2) else none) := Lib.hid (by
              rw [HT5.out, hln2]
              by_cases h9 : a2 = [46]
              · rw [if_pos h9, if_pos ⟨htn, h9⟩]
              · rw [if_neg h9, if_neg (fun hc => h9 hc.2)])
            clear haf2 hln2 hq2
            refine wpAnyT_one (i := 7) (o := { dst := some 51, op := Op.move (Operand.tmp 0), type := 74, pos := "reader.go:73", after := #[{ on := 6, ground := Ground.guard }], guard := some (6, true) }) rfl (by kernel_rfl) (fun K hK => ?_)
            go_simp
            refine hK.out _ _ (fun _ => trio_of HBK7.out) ?_
            clear hK K
            (try simp only [Act.put, List.setIfInBounds_toArray, List.set_cons_zero, List.set_cons_succ])
            refine wpAnyT_one (i := 8) (o := { dst := some 52, op := Op.call { callee := Callee.value (Operand.func 37), args := #[Operand.tmp 51], argTypes := #[74] }, type := 9, pos := "reader.go:73", after := #[{ on := 7, ground := Ground.data }, { on := 6, ground := Ground.chain }, { on := 6, ground := Ground.guard }], guard := some (6, true) }) rfl (by kernel_rfl) (fun K hK => ?_)
            go_simp
            go_at_call 37
            refine HLI7.out.mono ?_
            rintro e w8 ⟨hg8, rfl, hr8⟩
            have HGB8 := Lib.hid (gb_trans HGB7.out hg8)
            have HR8 := Lib.hid hr8
            have HBK8 : Hid (Blk w8 gt 26 #[.slice Ai ni ci, .slice Ao no co, .int .i64 (tq : Int)]) := Lib.hid ((hg8.block gt (Blk.lt HBK7.out) (fun e => by injection e with e; exact HBG.out.1 e.symm)).trans HBK7.out)
            have HZ8 : Hid (Blk w8 w.heap.size 26 #[.slice none 0 0, .slice none 0 0, .int .i64 0]) := Lib.hid ((hg8.block _ (Blk.lt HZ7.out) (fun e => by injection e with e; omega)).trans HZ7.out)
            have HOT8 := Lib.hid (HOT7.out.turned hg8 hlt)
            refine hK.out _ _ (fun _ => trio_of HBK8.out) ?_
            clear hK K hg8 hr8
            (try simp only)
            have hq20 := HAF7.out
            have hHeld := trio_of HBK8.out
            refine wpAnyT_take (i := 9) (oi := { dst := some 53, op := Op.binOp BinOp.eql 9 (Operand.tmp 52) (Operand.const (Value.string { data := #[46] })) 9, type := 4, pos := "reader.go:73", after := #[{ on := 8, ground := Ground.data }, { on := 6, ground := Ground.guard }, { on := 11, ground := Ground.gcOnly Departure.lateStores }], guard := some (6, true) }) (v := ?v9r11q6) rfl (by kernel_rfl) (fun _ _ _ h => h) (by rfl) hHeld ?h9r11q6 ?_
            case h9r11q6 => (intro w' hSw; (try dsimp only at hSw); go_simp; try with_reducible rfl)
            (try simp only [Act.put, List.setIfInBounds_toArray, List.set_cons_zero, List.set_cons_succ])
            refine wpAnyT_take (i := 10) (oi := { dst := some 54, op := Op.pick (Operand.tmp 50) (Operand.tmp 53) (Operand.const (Value.bool false)), type := 4, pos := "reader.go:73", after := #[{ on := 6, ground := Ground.data }, { on := 9, ground := Ground.data }, { on := 11, ground := Ground.gcOnly Departure.lateStores }], guard := none }) (v := ?v10r11q6) rfl (by kernel_rfl) (fun _ _ _ h => h) (by rfl) hHeld ?h10r11q6 ?_
            case h10r11q6 => (intro w' hSw; (try dsimp only at hSw); go_simp; try with_reducible rfl)
            (try simp only [Act.put, List.setIfInBounds_toArray, List.set_cons_zero, List.set_cons_succ])
            clear hHeld
            refine wpAnyT_one (i := 11) (o := { dst := none, op := Op.store 26 (Operand.tmp 2) (Operand.tmp 44), type := 0, pos := "reader.go:73", after := #[{ on := 0, ground := Ground.data }, { on := 8, ground := Ground.chain }, { on := 0, ground := Ground.phase }, { on := 1, ground := Ground.textOnly Departure.lateStores }, { on := 2, ground := Ground.textOnly Departure.lateStores }, { on := 3, ground := Ground.textOnly Departure.lateStores }, { on := 4, ground := Ground.textOnly Departure.lateStoresUnsure }, { on := 5, ground := Ground.textOnly Departure.lateStores }, { on := 6, ground := Ground.textOnly Departure.lateStores }, { on := 7, ground := Ground.textOnly Departure.lateStores }, { on := 8, ground := Ground.textOnly Departure.lateStoresUnsure }, { on := 9, ground := Ground.textOnly Departure.lateStores }, { on := 10, ground := Ground.textOnly Departure.lateStores }], guard := none }) rfl (by kernel_rfl) (fun K hK => ?_)
            rw [if_pos (by rfl)]
            refine wp_store_row 26 (.tmp 2) (.tmp 44) rfl w.heap.size #[.slice Ai ni ci, .slice Ao no co, .int .i64 (tq : Int)] rfl rfl 26 #[.slice none 0 0, .slice none 0 0, .int .i64 0] HZ8.out (by kernel_rfl) rfl (by simp [Value.oneCell']) ?_
            refine hK.out _ _ (fun _ => trio_of (far_row HBK8.out HBG.out.2.1.symm)) ?_
            clear hK K
            (try simp only [Act.put])
            refine wpAnyT_one (i := 12) (o := { dst := some 3, op := Op.assign (Operand.tmp 54), type := 4, pos := "reader.go:73", after := #[{ on := 10, ground := Ground.data }, { on := 11, ground := Ground.chain }, { on := 0, ground := Ground.phase }, { on := 1, ground := Ground.phase }, { on := 2, ground := Ground.phase }, { on := 3, ground := Ground.phase }, { on := 4, ground := Ground.phase }, { on := 5, ground := Ground.phase }, { on := 6, ground := Ground.phase }, { on := 7, ground := Ground.phase }, { on := 8, ground := Ground.phase }, { on := 9, ground := Ground.phase }, { on := 10, ground := Ground.phase }, { on := 11, ground := Ground.phase }], guard := none }) rfl (by kernel_rfl) (fun K hK => ?_)
            go_simp
            refine hK.out _ _ (fun _ => trio_of (far_row HBK8.out HBG.out.2.1.symm)) ?_
            clear hK K
            (try simp only [Act.put, List.setIfInBounds_toArray, List.set_cons_zero, List.set_cons_succ])
            refine wpAnyT_done (by kernel_rfl) ?_
            have HOZ : Hid (OwnT (w8.setRow w.heap.size #[.slice Ai ni ci, .slice Ao no co, .int .i64 (tq : Int)]) w.heap.size ⟨ini, rows, (tq : Int)⟩ ⟨.slice Ai ni ci, .slice Ao no co⟩) := Lib.hid (HOT8.out.boxT HZ8.out (fun k hk => setRow_other _ _ _ _ hk))
            go_wp2
            refine bodyPost_ret (results_cellS (fn := Tryd.f40) (p := 2) (q := 3) rfl _ _ w.heap.size 26 #[.slice Ai ni ci, .slice Ao no co, .int .i64 (tq : Int)] (0, 0) _ rfl (setRow_heap _ _ _ #[.slice Ai ni ci, .slice Ao no co, .int .i64 (tq : Int)] _ _ HZ8.out) Tryd.underlying26 rfl (by kernel_rfl) (.bool (decide (a2 = [46]))) rfl) rfl ?_
            refine ⟨gb_setRow HGB8.out (Nat.le_refl _), ⟨.slice Ai ni ci, .slice Ao no co⟩, (tq : Int), q2, q1, ⟨_, _, _, _, _, _, rfl⟩, Rd.row HR8.out HBG.out.2.2, by omega, by omega, ?_, fun t9 r9 hh => ?_⟩
            · rw [HRT.out, HT6.out]
              by_cases h9 : a2 = [46]
              · rw [if_pos h9, decide_eq_true h9]; rfl
              · rw [if_neg h9, decide_eq_false h9]; rfl
            · rw [HRT.out, HT6.out] at hh
              split at hh
              · injection hh with hh
                injection hh with h1 h2
                subst h1 h2
                exact ⟨rfl, HAF7.out.2.2, HOZ.out⟩
              · cases hh
          · have htz : ¬ ((tq : Int) < (no : Int)) := by omega
            have HT6 : Hid (R = none) := Lib.hid (by rw [HRT.out, HT5.out, if_neg (fun hc => htn hc.1)]; rfl)
            refine wpAnyT_one (i := 7) (o := { dst := some 51, op := Op.move (Operand.tmp 0), type := 74, pos := "reader.go:73", after := #[{ on := 6, ground := Ground.guard }], guard := some (6, true) }) rfl (by kernel_rfl) (fun K hK => ?_)
            go_simp
            refine hK.out _ _ (fun _ => trio_of HBK7.out) ?_
            clear hK K
            (try simp only [Act.put, List.setIfInBounds_toArray, List.set_cons_zero, List.set_cons_succ])
            refine wpAnyT_one (i := 8) (o := { dst := some 52, op := Op.call { callee := Callee.value (Operand.func 37), args := #[Operand.tmp 51], argTypes := #[74] }, type := 9, pos := "reader.go:73", after := #[{ on := 7, ground := Ground.data }, { on := 6, ground := Ground.chain }, { on := 6, ground := Ground.guard }], guard := some (6, true) }) rfl (by kernel_rfl) (fun K hK => ?_)
            go_simp
            refine hK.out _ _ (fun _ => trio_of HBK7.out) ?_
            clear hK K
            (try simp only [Act.put, List.setIfInBounds_toArray, List.set_cons_zero, List.set_cons_succ])
            have hHeld := trio_of HBK7.out
            refine wpAnyT_skip (i := 9) (oi := { dst := some 53, op := Op.binOp BinOp.eql 9 (Operand.tmp 52) (Operand.const (Value.string { data := #[46] })) 9, type := 4, pos := "reader.go:73", after := #[{ on := 8, ground := Ground.data }, { on := 6, ground := Ground.guard }, { on := 11, ground := Ground.gcOnly Departure.lateStores }], guard := some (6, true) }) rfl (by kernel_rfl) (fun _ _ _ h => h) (by go_simp) hHeld ?_
            (try simp only [Act.put, List.setIfInBounds_toArray, List.set_cons_zero, List.set_cons_succ])
            refine wpAnyT_take (i := 10) (oi := { dst := some 54, op := Op.pick (Operand.tmp 50) (Operand.tmp 53) (Operand.const (Value.bool false)), type := 4, pos := "reader.go:73", after := #[{ on := 6, ground := Ground.data }, { on := 9, ground := Ground.data }, { on := 11, ground := Ground.gcOnly Departure.lateStores }], guard := none }) (v := ?v10r11q7) rfl (by kernel_rfl) (fun _ _ _ h => h) (by rfl) hHeld ?h10r11q7 ?_
            case h10r11q7 => (intro w' hSw; (try dsimp only at hSw); go_simp; try with_reducible rfl)
            (try simp only [Act.put, List.setIfInBounds_toArray, List.set_cons_zero, List.set_cons_succ])
            clear hHeld
            refine wpAnyT_one (i := 11) (o := { dst := none, op := Op.store 26 (Operand.tmp 2) (Operand.tmp 44), type := 0, pos := "reader.go:73", after := #[{ on := 0, ground := Ground.data }, { on := 8, ground := Ground.chain }, { on := 0, ground := Ground.phase }, { on := 1, ground := Ground.textOnly Departure.lateStores }, { on := 2, ground := Ground.textOnly Departure.lateStores }, { on := 3, ground := Ground.textOnly Departure.lateStores }, { on := 4, ground := Ground.textOnly Departure.lateStoresUnsure }, { on := 5, ground := Ground.textOnly Departure.lateStores }, { on := 6, ground := Ground.textOnly Departure.lateStores }, { on := 7, ground := Ground.textOnly Departure.lateStores }, { on := 8, ground := Ground.textOnly Departure.lateStoresUnsure }, { on := 9, ground := Ground.textOnly Departure.lateStores }, { on := 10, ground := Ground.textOnly Departure.lateStores }], guard := none }) rfl (by kernel_rfl) (fun K hK => ?_)
            rw [if_pos (by rfl)]
            refine wp_store_row 26 (.tmp 2) (.tmp 44) rfl w.heap.size #[.slice Ai ni ci, .slice Ao no co, .int .i64 (tq : Int)] rfl rfl 26 #[.slice none 0 0, .slice none 0 0, .int .i64 0] HZ7.out (by kernel_rfl) rfl (by simp [Value.oneCell']) ?_
            refine hK.out _ _ (fun _ => trio_of (far_row HBK7.out HBG.out.2.1.symm)) ?_
            clear hK K
            (try simp only [Act.put])
            refine wpAnyT_one (i := 12) (o := { dst := some 3, op := Op.assign (Operand.tmp 54), type := 4, pos := "reader.go:73", after := #[{ on := 10, ground := Ground.data }, { on := 11, ground := Ground.chain }, { on := 0, ground := Ground.phase }, { on := 1, ground := Ground.phase }, { on := 2, ground := Ground.phase }, { on := 3, ground := Ground.phase }, { on := 4, ground := Ground.phase }, { on := 5, ground := Ground.phase }, { on := 6, ground := Ground.phase }, { on := 7, ground := Ground.phase }, { on := 8, ground := Ground.phase }, { on := 9, ground := Ground.phase }, { on := 10, ground := Ground.phase }, { on := 11, ground := Ground.phase }], guard := none }) rfl (by kernel_rfl) (fun K hK => ?_)
            go_simp
            refine hK.out _ _ (fun _ => trio_of (far_row HBK7.out HBG.out.2.1.symm)) ?_
            clear hK K
            (try simp only [Act.put, List.setIfInBounds_toArray, List.set_cons_zero, List.set_cons_succ])
            refine wpAnyT_done (by kernel_rfl) ?_
            have HOZ : Hid (OwnT (w7.setRow w.heap.size #[.slice Ai ni ci, .slice Ao no co, .int .i64 (tq : Int)]) w.heap.size ⟨ini, rows, (tq : Int)⟩ ⟨.slice Ai ni ci, .slice Ao no co⟩) := Lib.hid (HOT7.out.boxT HZ7.out (fun k hk => setRow_other _ _ _ _ hk))
            go_wp2
            refine bodyPost_ret (results_cellS (fn := Tryd.f40) (p := 2) (q := 3) rfl _ _ w.heap.size 26 #[.slice Ai ni ci, .slice Ao no co, .int .i64 (tq : Int)] (0, 0) _ rfl (setRow_heap _ _ _ #[.slice Ai ni ci, .slice Ao no co, .int .i64 (tq : Int)] _ _ HZ7.out) Tryd.underlying26 rfl (by kernel_rfl) (.bool false) rfl) rfl ?_
            refine ⟨gb_setRow HGB7.out (Nat.le_refl _), ⟨.slice Ai ni ci, .slice Ao no co⟩, (tq : Int), q1, q, ⟨_, _, _, _, _, _, rfl⟩, Rd.row HR7.out HBG.out.2.2, by omega, by omega, ?_, fun t9 r9 hh => ?_⟩
            · rw [HT6.out]; rfl
            · rw [HT6.out] at hh; cases hh
        | none =>
          rw [hlo] at HLO
          have HTN : Hid (TF = match rowB n a with | none => none | some row => if rows.length = 512 then none else traceF n (K - 1) (rows ++ [row]) r) := Lib.hid (by rw [HTF1.out, if_neg h46, hlo])
          clear h46 hlo c0 c1 c2
          go_upto_region 12 with (go_at_call 51; refine (HLO.out w4 HGB.out).mono ?_; rintro e w5 ⟨hb, v5, rfl, _⟩; have HB5 := Lib.hid hb; clear hb)
          have HR5 := Lib.hid (HR4.out.below HB5.out)
          obtain ⟨_, _, _, _, d4⟩ := HR5.out.cells
          go_upto_region 13 with (go_at_call 50; refine (HRO.out w5 a n HLN.out.2 HALE.out).mono ?_; rintro e w6 ⟨hb6, v, rfl, hno6, hyes6⟩; have HB6 := Lib.hid (bt HB5.out (Nat.le_refl _) hb6); have HV6 := Lib.hid (And.intro hno6 hyes6); have HSZ5 : Hid (w4.heap.size ≤ w5.heap.size) := Lib.hid HB5.out.size; clear hb6 hno6 hyes6)
          clear d4
          have HR6 := Lib.hid (HR4.out.below HB6.out)
          have HGB6 := Lib.hid (gb_below HGB.out HB6.out)
          have HZ6 := Lib.hid (Blk.below HZ4.out HB6.out (Blk.lt HZ4.out))
          have HBK6 := Lib.hid (Blk.below HCT4.out.blk HB6.out (Blk.lt HCT4.out.blk))
          clear HR5 HB5
          obtain ⟨c0, c1, c2⟩ := trio_of HBK6.out
          cases hrow : rowB n a with
          | none =>
            rw [hrow] at HV6 HTN
            have HN : Hid (R = none) := Lib.hid (by rw [HRT.out, HTN.out]; rfl)
            clear hrow
            have hbld := build_tr0 w6
            go_wp2_with (refine wpList_store_row rfl 26 (.tmp 2) (.tmp 72) rfl w.heap.size #[.slice none 0 0, .slice none 0 0, .int .i64 0] rfl rfl 26 _ HZ6.out (by kernel_rfl) rfl (by simp [Value.oneCell']) ?_)
            refine bodyPost_ret (results_cellS (fn := Tryd.f40) (p := 2) (q := 3) rfl _ _ w.heap.size 26 #[.slice none 0 0, .slice none 0 0, .int .i64 0] (0, 0) _ rfl (setRow_heap _ _ _ #[.slice none 0 0, .slice none 0 0, .int .i64 0] _ _ HZ6.out) Tryd.underlying26 rfl (by kernel_rfl) (.bool false) rfl) rfl ?_
            exact ⟨gb_setRow HGB6.out (Nat.le_refl _), ⟨.slice none 0 0, .slice none 0 0⟩, 0, q1, q, ⟨_, _, _, _, _, _, rfl⟩, Rd.row HR6.out HBG.out.2.2, by omega, by omega, by rw [HN.out]; rfl, fun t r hh => by rw [HN.out] at hh; cases hh⟩
          | some row =>
            rw [hrow] at HV6 HTN
            have hvo := HV6.out.2 row rfl
            obtain ⟨Aw, cw, rfl⟩ := own_slice_k hvo
            have HVW := Lib.hid (own_le hvo HSZ5.out)
            have HNE : Hid (a ≠ [10]) := Lib.hid (fun e => by
              rw [e] at hrow
              rcases (rowB_some hrow).2.2.1 10 (by simp) with h9 | h9 | h9 <;> exact absurd h9 (by decide))
            obtain ⟨nw, hnw⟩ : ∃ x, row.length = x := ⟨_, rfl⟩
            rw [hnw]
            have HNW := Lib.hid hnw
            clear hvo hrow HV6 hnw
            by_cases h5 : no = 512
            · have h5z : ((no : Int) == (512 : Int)) = true := by simpa using (by omega : (no : Int) = 512)
              have HN : Hid (R = none) := Lib.hid (by
                rw [HRT.out, HTN.out]
                simp only
                rw [if_pos (by rw [HRL.out]; exact h5)]
                rfl)
              have hbld := build_tr0 w6
              go_wp2_with (refine wpList_store_row rfl 26 (.tmp 2) (.tmp 72) rfl w.heap.size #[.slice none 0 0, .slice none 0 0, .int .i64 0] rfl rfl 26 _ HZ6.out (by kernel_rfl) rfl (by simp [Value.oneCell']) ?_)
              refine bodyPost_ret (results_cellS (fn := Tryd.f40) (p := 2) (q := 3) rfl _ _ w.heap.size 26 #[.slice none 0 0, .slice none 0 0, .int .i64 0] (0, 0) _ rfl (setRow_heap _ _ _ #[.slice none 0 0, .slice none 0 0, .int .i64 0] _ _ HZ6.out) Tryd.underlying26 rfl (by kernel_rfl) (.bool false) rfl) rfl ?_
              exact ⟨gb_setRow HGB6.out (Nat.le_refl _), ⟨.slice none 0 0, .slice none 0 0⟩, 0, q1, q, ⟨_, _, _, _, _, _, rfl⟩, Rd.row HR6.out HBG.out.2.2, by omega, by omega, by rw [HN.out]; rfl, fun t r hh => by rw [HN.out] at hh; cases hh⟩
            · have h5z : ((no : Int) == (512 : Int)) = false := by simpa using (by omega : ¬ (no : Int) = 512)
              have HTN2 : Hid (traceF n (K - 1) (rows ++ [row]) r = TF) := Lib.hid (by
                rw [HTN.out]
                simp only
                rw [if_neg (by rw [HRL.out]; exact h5)])
              have hno2 : no < 512 := by have := HRL.out; omega
              go_wp2_with (first | (at_builtin; refine wpList_append_any _ rfl (.tmp 74) (.tmp 76) _ rfl W1.heap.size 23 iB _ 1 24 Tryd.underlying24 HIB.out.1 HIB.out.2.1 HIB.out.2.2.1 HIB.out.2.2.2 rfl (by omega) (.slice Ao no co) no us rfl (by have h9 := own_below HCT4.out.o HB6.out; rw [HNO.out] at h9; exact h9.alloc _) (w6.heap.size + 1) (some ⟨w6.heap.size, 0, none⟩) 1 1 [.slice Aw nw cw] rfl (reads_one _ _ _) (by simp [Value.oneCell']) (by simp only [maxLen]; omega) (by omega) (by have := HW1.out; have := HGB6.out.size; simp; omega) ?_; intro v7 w7 hown7 hg7 hat7; obtain ⟨A7, k7, he7⟩ := own_slice1 hown7; subst he7; obtain ⟨hbk7, hct7⟩ := HCT4.out.put (u := .slice Aw nw cw) (zs := row) HB6.out (by have h9 := HVW.out; rw [HNW.out] at h9; rw [HNW.out]; exact h9) _ (by rw [HNO.out]; exact hown7) hg7; have HB7 : Hid (Below w.heap.size w6 w7) := Lib.hid (((Below.refl w.heap.size w6).alloc HGB6.out.size _).grown hg7 (by have := HGB6.out.size; simp; omega) (fun k hk => by rw [← HW1.out]; exact (HCT4.out.o.lt k hk).1)); have HZ7 := Lib.hid ((HZ6.out.alloc _).grown hg7 (fun e => own_blk_ne (own_below HCT4.out.o HB6.out) HZ6.out (by decide) e.symm)); have HCT7 := Lib.hid hct7; have q0 := hbk7.cell 1; have q8 := hbk7.frozen 1; have q2 := hbk7.lt; simp only [List.getElem?_toArray, List.getElem?_cons_zero, List.getElem?_cons_succ] at q0; clear hown7 hg7 hat7 hbk7 hct7))
              go_wp2
              go_roundg (s.length - q1)
              case measure => have := HLT.out HNE.out; omega
              case rel =>
                refine ⟨q1, q, K - 1, _, _, _, rows ++ [row], W1, rfl, HAF4.out.2.1, hq, Rd.cellN (Blk.below HR6.out HB7.out hlt) HBG.out.1, Blk.far HZ7.out HBG.out.2.1 _, HW1.out, HCT7.out, ?_, ?_, ?_, gb_setNew (gb_low HGB6.out HB7.out) (by have := HGT.out; omega)⟩
                · rw [List.length_append, HRL.out]; simp; omega
                · have h1 := HKL.out; have h2 := HLT.out HNE.out; rw [List.length_drop] at h1 ⊢; omega
                · rw [HAF4.out.2.2]; exact HTN2.out
end Go.Proofs.YtjbglgmbnjdhcaaDoor

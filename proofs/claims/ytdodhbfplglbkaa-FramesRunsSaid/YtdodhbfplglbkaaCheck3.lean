/- The contract of Check: what is wrong with a circuit first, of any circuit. -/
import Derived.Test.YtdodhbfplglbkaaTable
import Derived.Test.YtdodhbfplglbkaaSizes
import Derived.Test.YtdodhbfplglbkaaCont
import Derived.Test.YtdodhbfplglbkaaLift
import Derived.Maps.OwnSet
import Derived.DeepKeys4
import Derived.Test.YtdodhbfplglbkaaDefd
import Derived.Test.YtdodhbfplglbkaaUsed
import Derived.Test.YtdodhbfplglbkaaFirst
namespace Go.Proofs.Ytdodhbfplglbkaa
open Go.RowKit

/-- How many things of a symbol's kind there are. -/
def countF (C : Circ) (k : Int) : Int :=
  if k = 105 then C.inputs.length else if k = 108 then C.latches.length else if k = 111 then C.outputs.length else if k = 98 then C.bads.length else
  if k = 99 then C.constraints.length else if k = 106 then C.justice.length else if k = 102 then C.fairness.length else 0

theorem len_form {E : Type} {k : Nat} {enc : E → List Value} {w : World} {v : Value} {zs : List E} (h : RowE k enc w v zs) : ∃ A c, v = .slice A zs.length c ∧ zs.length ≤ maxLen := by
  have hl := h.len
  obtain ⟨A, c, e, _⟩ := h
  exact ⟨A, c, e, hl⟩
theorem countF_bd {C : Circ} {w : World} {V : CV} (_h : C.In w V) (k : Int) : 0 ≤ countF C k := by
  unfold countF
  split
  · omega
  · split
    · omega
    · split
      · omega
      · split
        · omega
        · split
          · omega
          · split
            · omega
            · split <;> omega

set_option maxHeartbeats 2000000 in
set_option maxRecDepth 100000 in
theorem countOf_any (w : World) (V : CV) (C : Circ) (k : Int) (h : C.In w V) :
    Calls Try.prog 128 #[V.val C.max, .int .u8 k] w fun e w' => e = .returned (.int .i64 (countF C k)) ∧ w' = w.alloc (.cells (V.cells C.max) 29) := by
  obtain ⟨Ai, ci, ei, hi2⟩ := len_form h.i
  obtain ⟨Al, cl, el, hl2⟩ := len_form h.l
  obtain ⟨Ao, co, eo, ho2⟩ := len_form h.o
  obtain ⟨Ab, cb, eb, hb2⟩ := len_form h.b
  obtain ⟨Ac, cc, ec, hc2⟩ := len_form h.c
  obtain ⟨Aj, cj, ej, hj2, _⟩ := h.j.at_
  obtain ⟨Af, cf, ef, hf2⟩ := len_form h.f
  obtain ⟨Vi, Vl, Vo, Vb, Vc, Vj, Vf, Va, Vs, Vt⟩ := V
  simp only at ei el eo eb ec ej ef
  subst ei el eo eb ec ej ef
  clear h
  unfold maxLen at *
  have hx : k = 105 ∨ k = 108 ∨ k = 111 ∨ k = 98 ∨ k = 99 ∨ k = 106 ∨ k = 102 ∨ (k ≠ 105 ∧ k ≠ 108 ∧ k ≠ 111 ∧ k ≠ 98 ∧ k ≠ 99 ∧ k ≠ 106 ∧ k ≠ 102) := by omega
  rcases hx with rfl | rfl | rfl | rfl | rfl | rfl | rfl | ⟨h1, h2, h3, h4, h5, h6, h7⟩
  case inr.inr.inr.inr.inr.inr.inr =>
    have e : countF C k = 0 := by unfold countF; rw [if_neg h1, if_neg h2, if_neg h3, if_neg h4, if_neg h5, if_neg h6, if_neg h7]
    rw [e]
    have g1 : (k == 105) = false := by simpa using h1
    have g2 : (k == 108) = false := by simpa using h2
    have g3 : (k == 111) = false := by simpa using h3
    have g4 : (k == 98) = false := by simpa using h4
    have g5 : (k == 99) = false := by simpa using h5
    have g6 : (k == 106) = false := by simpa using h6
    have g7 : (k == 102) = false := by simpa using h7
    clear h1 h2 h3 h4 h5 h6 h7 e
    go_enter Try.func128, Try.ntmps128
    go_wp2
    go_ret
    exact ⟨rfl, rfl⟩
  all_goals
    simp only [countF]
    go_enter Try.func128, Try.ntmps128
    go_wp2
    go_ret
    exact ⟨by simp, rfl⟩

/-- May a symbol have that name? -/
def nameB (s : ByteArray) : Bool := decide (1 ≤ s.size ∧ s.size ≤ 64) && s.data.toList.all fun b => decide (32 ≤ b.toNat)
theorem nameB_no {s : ByteArray} (h : ¬ (1 ≤ s.size ∧ s.size ≤ 64)) : nameB s = false := by simp [nameB, h]
theorem nameB_low {s : ByteArray} {k : Nat} (hk : k < s.size) (h : s[k].toNat < 32) : nameB s = false := by
  have : s.data.toList.all (fun b => decide (32 ≤ b.toNat)) = false := by
    rw [List.all_eq_false]
    have hk' : k < s.data.toList.length := by rw [Array.length_toList]; exact hk
    exact ⟨s.data.toList[k], List.getElem_mem hk', by rw [show s.data.toList[k] = s[k] from rfl]; simpa using h⟩
  unfold nameB; rw [this]; simp
theorem nameB_ok {s : ByteArray} (h : 1 ≤ s.size ∧ s.size ≤ 64) (ha : (s.data.toList.take s.size).all (fun b => decide (32 ≤ b.toNat)) = true) : nameB s = true := by
  have e : s.data.toList.take s.size = s.data.toList := List.take_of_length_le (by rw [Array.length_toList]; exact Nat.le_refl _)
  rw [e] at ha
  unfold nameB; rw [ha]; simp [h]
theorem all_snoc {s : ByteArray} {k : Nat} (hk : k < s.size) (ha : (s.data.toList.take k).all (fun b => decide (32 ≤ b.toNat)) = true) (h : 32 ≤ s[k].toNat) : (s.data.toList.take (k + 1)).all (fun b => decide (32 ≤ b.toNat)) = true := by
  have hk' : k < s.data.toList.length := by rw [Array.length_toList]; exact hk
  rw [List.take_succ_eq_append_getElem hk', List.all_append, ha]
  have e : s.data.toList[k] = s[k] := rfl
  rw [e]; simpa using h

set_option maxHeartbeats 1000000 in
theorem isName_any (w : World) (s : ByteArray) (hs : s.size ≤ maxLen) :
    Calls Try.prog 129 #[.string s] w fun e w' => e = .returned (.bool (nameB s)) ∧ w = w' := by
  unfold maxLen at hs
  by_cases hn : 1 ≤ s.size ∧ s.size ≤ 64
  · have HN := Lib.hid hn
    obtain ⟨h1, h2⟩ := hn
    generalize hr : nameB s = r
    have HR := Lib.hid hr
    clear hr
    go_enter Try.func129, Try.ntmps129
    go_wp2
    go_loop [14] (fun i => ∃ k : Nat, k ≤ s.size ∧ i = .int .i64 k ∧ (s.data.toList.take k).all (fun b => decide (32 ≤ b.toNat)) = true) (fun i => s.size - (intOf i).toNat)
    case atStart => exact ⟨0, Nat.zero_le _, rfl, by simp⟩
    case round =>
      obtain ⟨k, hk, rfl, hall⟩ := hrel
      have HA := Lib.hid hall
      clear hall
      by_cases hlt : k < s.size
      · by_cases hl : s[k].toNat < 32
        · have hl' : (s[k].toNat : Int) < 32 := by omega
          have HL := Lib.hid (nameB_low hlt hl)
          clear hl
          go_wp2
          go_ret
          exact ⟨ret_bool (by rw [← HR.out]; exact HL.out.symm), rfl⟩
        · have hl' : ¬ (s[k].toNat : Int) < 32 := by omega
          have HL := Lib.hid (all_snoc hlt HA.out (by omega))
          clear hl
          go_wp2
          go_round
          case rel => exact ⟨k + 1, by omega, by go_num, HL.out⟩
          case measure => simp [intOf]; omega
      · have : k = s.size := by omega
        subst this
        go_wp2
        go_ret
        exact ⟨ret_bool (by rw [← HR.out]; exact (nameB_ok HN.out HA.out).symm), rfl⟩
  · rw [nameB_no hn]
    have hx : s.size < 1 ∨ 64 < s.size := by omega
    have HN := Lib.hid hn
    clear hn
    rcases hx with hx | hx
    all_goals
      go_enter Try.func129, Try.ntmps129
      go_wp2
      go_ret
      exact ⟨rfl, rfl⟩
end Go.Proofs.Ytdodhbfplglbkaa

namespace Go.Proofs.Ytdodhbfplglbkaa
open Go.RowKit Go.Maps

theorem keyLaw : Keyed Try.prog 157 := Keyed.of_law (deep_law_laid laidOut (m := 3) (by omega) (of_decide_eq_true (by kernel_rfl)) (by kernel_rfl) (by kernel_rfl))
theorem zeroUnit (w : World) : (zeroValue 158).run Try.prog w = .ok (.agg #[]) w := by kernel_rfl
theorem keyLits_spot (a b : Int) (ha : (Lit.int .u8 a).wf = true) (hb : (Lit.int .i64 b).wf = true) (d : Nat) : Try.prog.keyLits (d + 2) 157 [.int .u8 a, .int .i64 b] = some [.int .u8 a, .int .i64 b] := by
  have hc : Try.prog.cellsOf 157 = 2 := by kernel_rfl
  have hc5 : Try.prog.cellsOf 5 = 1 := by kernel_rfl
  have hc3 : Try.prog.cellsOf 3 = 1 := by kernel_rfl
  simp [Program.keyLits, Try.underlying157, Try.underlying5, Try.underlying3, hc, hc5, hc3, ha, hb]
theorem key_some (a b : Int) (ha : 0 ≤ a ∧ a ≤ 255) (hb : I64 b) : ∃ kl, keyOf Try.prog 157 (.agg #[.int .u8 a, .int .i64 b]) = some kl := by
  have h1 : (Lit.int .u8 a).wf = true := by simp [Lit.wf, IntKind.min, IntKind.max, IntKind.signed, IntKind.bits]; omega
  have h2 : (Lit.int .i64 b).wf = true := by unfold I64 at hb; simp [Lit.wf, IntKind.min, IntKind.max, IntKind.signed, IntKind.bits]; omega
  have hk : Try.prog.keyType 157 = true := by kernel_rfl
  have hf : (Value.agg #[.int .u8 a, .int .i64 b]).formed Try.prog 157 = true := by
    have hc : Try.prog.cellsOf 157 = 2 := by kernel_rfl
    simp [Value.formed, Try.underlying157, hc]
  have hs : ∃ d, Try.prog.types.size + 1 = d + 2 := ⟨Try.prog.types.size - 1, by have : 1 ≤ Try.prog.types.size := of_decide_eq_true (by kernel_rfl); omega⟩
  obtain ⟨d, hd⟩ := hs
  have hl := keyLits_spot a b h1 h2 d
  unfold keyOf
  rw [hd]
  simp only [Try.underlying157, hk, hf, Bool.and_self, if_true]
  refine ⟨.string (keyBytes [.int .u8 a, .int .i64 b]), ?_⟩
  show Option.map _ (Try.prog.keyLits (d + 2) 157 [.int .u8 a, .int .i64 b]) = _
  rw [hl]; rfl

/-- The set D holds just the pairs that are listed. -/
def Seen (D : DataW Unit) (ps : List (Int × Int)) : Prop := IsMap D ∧ ∀ (a b : Int) (kl : Lit), keyOf Try.prog 157 (.agg #[.int .u8 a, .int .i64 b]) = some kl → Maps.has D kl = ps.contains (a, b)
theorem key_inj {a b a' b' : Int} {kl : Lit} (h : keyOf Try.prog 157 (.agg #[.int .u8 a, .int .i64 b]) = some kl) (h' : keyOf Try.prog 157 (.agg #[.int .u8 a', .int .i64 b']) = some kl) : a = a' ∧ b = b' := by
  have := keyLaw.inj h h'
  simpa using this
theorem Seen.put {D : DataW Unit} {ps : List (Int × Int)} (h : Seen D ps) {a b : Int} {kl : Lit} (hk : keyOf Try.prog 157 (.agg #[.int .u8 a, .int .i64 b]) = some kl) (d : DataW Unit) : Seen (D.put kl d) ((a, b) :: ps) := by
  refine ⟨h.1.put _ _, fun a' b' kl' hk' => ?_⟩
  by_cases e : kl' = kl
  · subst e
    obtain ⟨rfl, rfl⟩ := key_inj hk hk'
    rw [has_put_same h.1 (keyLaw.key hk)]
    simp
  · rw [has_put_other e, h.2 a' b' kl' hk']
    have hne : (a', b') ≠ (a, b) := by
      intro e2
      cases e2
      rw [hk] at hk'
      injection hk' with hk'
      exact e hk'.symm
    have : ((a', b') == (a, b)) = false := by simpa using hne
    rw [List.contains_cons, this, Bool.false_or]

/-- May a symbol stand there, behind those that are listed? -/
def symB (C : Circ) (ps : List (Int × Int)) (s : Sym) : Bool := !(ps.contains (s.kind, s.at_)) && (decide (0 ≤ s.at_) && (decide (s.at_ < countF C s.kind) && nameB s.name))
def symAll (C : Circ) : List Sym → Nat → List (Int × Int) → Int × Int
  | [], _, _ => (0, 0)
  | s :: r, i, ps => if symB C ps s = true then symAll C r (i + 1) ((s.kind, s.at_) :: ps) else ((i : Int), 35)
def symR (C : Circ) : Int × Int := symAll C C.symbols 0 []
theorem symAll_step {C : Circ} {xs : List Sym} {k : Nat} {x : Sym} {ps : List (Int × Int)} (h : xs[k]? = some x) (h0 : symB C ps x = true) : symAll C (xs.drop k) k ps = symAll C (xs.drop (k + 1)) (k + 1) ((x.kind, x.at_) :: ps) := by
  rw [drop_one h, symAll, if_pos h0]
theorem symAll_stop {C : Circ} {xs : List Sym} {k : Nat} {x : Sym} {ps : List (Int × Int)} (h : xs[k]? = some x) (h0 : symB C ps x = false) : symAll C (xs.drop k) k ps = ((k : Int), 35) := by
  rw [drop_one h, symAll, if_neg (by rw [h0]; decide)]
theorem symAll_end {C : Circ} {xs : List Sym} {k : Nat} {ps : List (Int × Int)} (h : xs.length ≤ k) : symAll C (xs.drop k) k ps = (0, 0) := by rw [drop_all h]; rfl
theorem ret_sym {k k' : IntKind} {a b : Int} {r : Int × Int} (h : r = (a, b)) : Ending.returned (.tuple #[.int k a, .int k' b]) = .returned (.tuple #[.int k r.1, .int k' r.2]) := by rw [h]
theorem build_spot (a b : Int) (w : World) : (Instr.build 157 #[(0, .int .u8 a), (1, .int .i64 b)]).run Try.prog w = .ok (.agg #[.int .u8 a, .int .i64 b]) w := run_build w _ _ _ (by kernel_rfl)

/-- What holds wherever the tests of a symbol are made. -/
structure SymC (w : World) (gs k : Nat) (D : DataW Unit) (s : Sym) (cs : Array Value) (w' : World) : Prop where
  below : Below w.heap.size w w'
  sym : Blk w' gs 155 #[.int .u8 s.kind, .int .i64 s.at_, .string s.name]
  key : Blk w' (gs + 1) 157 #[.int .u8 s.kind, .int .i64 s.at_]
  box : Blk w' w.heap.size 29 cs
  own : w'.ownsMap Try.prog 157 unitElem (w.heap.size + 1) k D
theorem SymC.alloc {w w' : World} {gs k : Nat} {D : DataW Unit} {s : Sym} {cs : Array Value} (h : SymC w gs k D s cs w') (o : Obj) : SymC w gs k D s cs (w'.alloc o) :=
  ⟨h.below.alloc h.below.size o, h.sym.alloc o, h.key.alloc o, h.box.alloc o, h.own.alloc o⟩
theorem SymC.cells {w w' : World} {gs k : Nat} {D : DataW Unit} {kd at_ m : Int} {nm : ByteArray} {Vi Vl Vo Vb Vc Vj Vf Va Vs Vt : Value} (h : SymC w gs k D ⟨kd, at_, nm⟩ #[.int .i64 m, Vi, Vl, Vo, Vb, Vc, Vj, Vf, Va, Vs, Vt] w') :
    w'.cell? ⟨gs, 0, none⟩ = some (.int .u8 kd) ∧ w'.cell? ⟨gs, 1, none⟩ = some (.int .i64 at_) ∧ w'.cell? ⟨gs, 2, none⟩ = some (.string nm) ∧ w'.cell? ⟨gs + 1, 0, none⟩ = some (.int .u8 kd) ∧ w'.cell? ⟨gs + 1, 1, none⟩ = some (.int .i64 at_) ∧
    w'.cell? ⟨w.heap.size, 0, none⟩ = some (.int .i64 m) ∧ w'.cell? ⟨w.heap.size, 1, none⟩ = some Vi ∧ w'.cell? ⟨w.heap.size, 2, none⟩ = some Vl ∧ w'.cell? ⟨w.heap.size, 3, none⟩ = some Vo ∧ w'.cell? ⟨w.heap.size, 4, none⟩ = some Vb ∧ w'.cell? ⟨w.heap.size, 5, none⟩ = some Vc ∧ w'.cell? ⟨w.heap.size, 6, none⟩ = some Vj ∧ w'.cell? ⟨w.heap.size, 7, none⟩ = some Vf ∧ w'.cell? ⟨w.heap.size, 8, none⟩ = some Va ∧ w'.cell? ⟨w.heap.size, 9, none⟩ = some Vs ∧ w'.cell? ⟨w.heap.size, 10, none⟩ = some Vt :=
  ⟨h.sym.cell 0, h.sym.cell 1, h.sym.cell 2, h.key.cell 0, h.key.cell 1, h.box.cell 0, h.box.cell 1, h.box.cell 2, h.box.cell 3, h.box.cell 4, h.box.cell 5, h.box.cell 6, h.box.cell 7, h.box.cell 8, h.box.cell 9, h.box.cell 10⟩

set_option maxHeartbeats 4000000 in
set_option maxRecDepth 100000 in
theorem checkSymbols_any (w : World) (V : CV) (C : Circ) (h : C.In w V) (ok : C.Ok) (hsz : ∀ s ∈ C.symbols, s.name.size ≤ maxLen) (hn16 : C.symbols.length ≤ 16384) :
    Calls Try.prog 90 #[V.val C.max] w fun e w' => e = .returned (.tuple #[.int .i64 (symR C).1, .int .i64 (symR C).2]) ∧ Below w.heap.size w w' := by
  have hmm := @run_makeMap Try.prog
  have hcount := fun (wx : World) (hb : Below w.heap.size w wx) (k : Int) => countOf_any wx V C k (h.below hb)
  have HCNT := Lib.hid hcount
  obtain ⟨A, c, eS, _, hm, hrun⟩ := h.s
  have HRUN := Lib.hid hrun
  have HOK := Lib.hid ok
  have HSZ := Lib.hid hsz
  obtain ⟨Vi, Vl, Vo, Vb, Vc, Vj, Vf, Va, Vs, Vt⟩ := V
  simp only at eS
  subst eS
  clear hrun h hm ok hsz hcount
  generalize hr : symR C = r
  have HR := Lib.hid hr
  clear hr
  unfold symR at HR
  generalize hn : C.symbols.length = n at *
  have HN := Lib.hid hn
  clear hn
  go_enter Try.func90, Try.ntmps90
  go_wp2
  go_loopw [14] (fun i wr => ∃ (k : Nat) (D : DataW Unit) (ps : List (Int × Int)), k ≤ n ∧ i = .int .i64 k ∧ wr.ownsMap Try.prog 157 unitElem (w.heap.size + 1) k D ∧ Seen D ps ∧ symAll C C.symbols 0 [] = symAll C (C.symbols.drop k) k ps ∧ Below w.heap.size w wr ∧ Blk wr w.heap.size 29 _) (fun i _ => n - (intOf i).toNat)
  case atStart =>
    refine ⟨0, .map [], [], Nat.zero_le _, rfl, ?_, ⟨isMap_empty, fun a b kl _ => rfl⟩, rfl, ?_, ?_⟩
    rotate_left 2
    · exact Blk.alloc (Blk.new _ _ _) _
    · have := World.ownsMap_made (P := Try.prog) (k := 157) (R := unitElem (H := Unit)) (w.alloc (.cells ({ i := Vi, l := Vl, o := Vo, b := Vb, c := Vc, j := Vj, f := Vf, a := Va, s := .slice A n c, t := Vt : CV }.cells C.max) 29))
      simpa using this
    · exact ((Below.refl _ _).alloc (Nat.le_refl _) _).alloc (by simp) _
  case round =>
    obtain ⟨k, D, ps, hk, rfl, hown, hseen, hall, hbw, hbox⟩ := hrel
    have HOWN := Lib.hid hown
    have HALL := Lib.hid hall
    have HBW := Lib.hid hbw
    have HBOX := Lib.hid hbox
    have HSEEN := Lib.hid hseen
    by_cases hlt : k < n
    · have hx := List.getElem?_eq_getElem (l := C.symbols) (i := k) (by rw [HN.out]; exact hlt)
      generalize C.symbols[k]'(by rw [HN.out]; exact hlt) = x at hx
      obtain ⟨b, off, rfl, hb, hcell⟩ := HRUN.out k x hx
      have HX := Lib.hid hx
      have hxo := HOK.out.s x (List.mem_of_getElem? hx)
      have hnm := HSZ.out x (List.mem_of_getElem? hx)
      obtain ⟨kd, at_, nm⟩ := x
      have h0 := (hbw.cell (p := ⟨b, off + (k * 3 + 0), none⟩) hb).trans (hcell 0 _ rfl)
      have h1 := (hbw.cell (p := ⟨b, off + (k * 3 + 1), none⟩) hb).trans (hcell 1 _ rfl)
      have h2 := (hbw.cell (p := ⟨b, off + (k * 3 + 2), none⟩) hb).trans (hcell 2 _ rfl)
      simp only [Nat.add_zero, ← Nat.add_assoc] at h0 h1 h2
      simp only at hxo hnm
      obtain ⟨kl, hkey⟩ := key_some kd at_ ⟨hxo.1, hxo.2.1⟩ hxo.2.2
      have hhas := hseen.2 kd at_ kl hkey
      have HKEY := Lib.hid hkey
      have hbld := build_spot kd at_
      have hbsz := hbw.size
      have hbx := Blk.lt hbox
      have HC3 : Hid (SymC w wr.heap.size k D ⟨kd, at_, nm⟩ #[.int .i64 C.max, Vi, Vl, Vo, Vb, Vc, Vj, Vf, Va, .slice (some ⟨b, off, none⟩) n c, Vt] (((wr.alloc (.cells #[.int .u8 kd, .int .i64 at_, .string nm] 155)).alloc (.cells #[.int .u8 kd, .int .i64 at_] 157)).alloc (.cells #[] 158)).drew) := by
        refine Lib.hid ⟨below_drewN (((hbw.alloc hbsz _).alloc (by simp; omega) _).alloc (by simp; omega) _) 1, ((((Blk.new wr _ _).alloc _).alloc _)).drew, ?_, (((hbox.alloc _).alloc _).alloc _).drew, (((hown.alloc _).alloc _).alloc _).drew⟩
        have := (Blk.new (wr.alloc (.cells #[.int .u8 kd, .int .i64 at_, .string nm] 155)) 157 #[.int .u8 kd, .int .i64 at_]).alloc (.cells #[] 158)
        simpa using this.drew
      clear hx hcell hseen hkey hown hall hbw hbox hxo
      cases hs : ps.contains (kd, at_)
      · rw [hs] at hhas
        have HS := Lib.hid hs
        clear hs
        by_cases h1 : at_ < 0
        · have d1 : decide (at_ < 0) = true := decide_eq_true h1
          have HF := Lib.hid (symAll_stop (C := C) HX.out (show symB C ps ⟨kd, at_, nm⟩ = false by simp only [symB, Bool.and_eq_false_iff]; exact .inr (.inl (decide_eq_false (by omega)))))
          go_wp2_with (first | (at_lookup; refine wpList_lookup_own_unit _ rfl _ _ 153 rfl 157 158 keyLaw Try.underlying153 (zeroUnit _) (w.heap.size + 1) k _ rfl ((HOWN.out.alloc _).alloc _) _ _ rfl HKEY.out ?_))
          refine wp_region_quiet (C := SymC w wr.heap.size k D ⟨kd, at_, nm⟩ #[.int .i64 C.max, Vi, Vl, Vo, Vb, Vc, Vj, Vf, Va, .slice (some ⟨b, off, none⟩) n c, Vt]) (by kernel_rfl) (by kernel_rfl) HC3.out ?_
          simp only
          repeat
            first
              | go_big_quiet_skip
              | (refine wpQuiet_step (fun K hK => ?_)
                 rw [if_pos (by rfl)]
                 unfold Oper.quiet
                 apply Exists.intro
                 refine And.intro (fun wx hWx => ?_) (hK _ ?_)
                 · first
                     | (go_simp; exact rfl)
                     | (obtain ⟨q0, q1, q2, _⟩ := hWx.cells; go_simp; exact rfl)
                     | (obtain ⟨_, _, _, _, _, c0, c1, c2, c3, c4, c5, c6, c7, c8, c9, c10⟩ := hWx.cells; go_simp; exact rfl)
                     | (go_simp; first | fail)
                 clear hK K
                 try simp only [Act.put, List.setIfInBounds_toArray, List.set_cons_zero, List.set_cons_succ])
          refine wpQuiet_nil ?_
          intro w5 hW5
          have HW5 := Lib.hid hW5
          clear hW5
          go_wp2
          go_ret2
          exact ⟨ret_sym (HR.out.symm.trans (HALL.out.trans HF.out)), HW5.out.below⟩
        · obtain ⟨cnt, hcnt⟩ : ∃ x, countF C kd = x := ⟨_, rfl⟩
          have HC := Lib.hid hcnt
          have d1 : decide (at_ < 0) = false := decide_eq_false h1
          clear hcnt
          by_cases h2 : at_ < cnt
          · have d2 : decide (cnt ≤ at_) = false := decide_eq_false (by omega)
            cases h3 : nameB nm
            · have HN3 := Lib.hid h3
              clear h3
              have HF := Lib.hid (symAll_stop (C := C) HX.out (show symB C ps ⟨kd, at_, nm⟩ = false by rw [show symB C ps ⟨kd, at_, nm⟩ = (_ && (_ && (_ && nameB nm))) from rfl, HN3.out]; simp))
              go_wp2_with (first | (at_lookup; refine wpList_lookup_own_unit _ rfl _ _ 153 rfl 157 158 keyLaw Try.underlying153 (zeroUnit _) (w.heap.size + 1) k _ rfl ((HOWN.out.alloc _).alloc _) _ _ rfl HKEY.out ?_))
              refine wp_region_quiet (C := SymC w wr.heap.size k D ⟨kd, at_, nm⟩ #[.int .i64 C.max, Vi, Vl, Vo, Vb, Vc, Vj, Vf, Va, .slice (some ⟨b, off, none⟩) n c, Vt]) (by kernel_rfl) (by kernel_rfl) HC3.out ?_
              simp only
              repeat
                first
                  | go_big_quiet_skip
                  | (refine wpQuiet_step (fun K hK => ?_)
                     rw [if_pos (by rfl)]
                     unfold Oper.quiet
                     apply Exists.intro
                     refine And.intro (fun wx hWx => ?_) (hK _ ?_)
                     · first
                         | (go_simp; exact rfl)
                         | (obtain ⟨q0, q1, q2, _⟩ := hWx.cells; go_simp; exact rfl)
                         | (obtain ⟨_, _, _, _, _, c0, c1, c2, c3, c4, c5, c6, c7, c8, c9, c10⟩ := hWx.cells; go_simp; exact rfl)
                         | (go_simp; first | (go_at_call 128; (refine (HCNT.out _ hWx.below kd).mono ?_; rw [HC.out]; rintro e w' ⟨rfl, rfl⟩; exact ⟨rfl, hWx.alloc _⟩)) | (go_at_call 129; (refine (isName_any _ nm hnm).mono ?_; rw [HN3.out]; rintro e w' ⟨rfl, rfl⟩; exact ⟨rfl, hWx⟩)))
                     clear hK K
                     try simp only [Act.put, List.setIfInBounds_toArray, List.set_cons_zero, List.set_cons_succ])
              refine wpQuiet_nil ?_
              intro w5 hW5
              have HW5 := Lib.hid hW5
              clear hW5
              go_wp2
              go_ret2
              exact ⟨ret_sym (HR.out.symm.trans (HALL.out.trans HF.out)), HW5.out.below⟩
            · have HN3 := Lib.hid h3
              clear h3
              have HF := Lib.hid (symAll_step (C := C) HX.out (show symB C ps ⟨kd, at_, nm⟩ = true by simp only [symB, HS.out, HN3.out, HC.out]; simp; omega))
              go_wp2_with (first | (at_lookup; refine wpList_lookup_own_unit _ rfl _ _ 153 rfl 157 158 keyLaw Try.underlying153 (zeroUnit _) (w.heap.size + 1) k _ rfl ((HOWN.out.alloc _).alloc _) _ _ rfl HKEY.out ?_))
              refine wp_region_quiet (C := SymC w wr.heap.size k D ⟨kd, at_, nm⟩ #[.int .i64 C.max, Vi, Vl, Vo, Vb, Vc, Vj, Vf, Va, .slice (some ⟨b, off, none⟩) n c, Vt]) (by kernel_rfl) (by kernel_rfl) HC3.out ?_
              simp only
              repeat
                first
                  | go_big_quiet_skip
                  | (refine wpQuiet_step (fun K hK => ?_)
                     rw [if_pos (by rfl)]
                     unfold Oper.quiet
                     apply Exists.intro
                     refine And.intro (fun wx hWx => ?_) (hK _ ?_)
                     · first
                         | (go_simp; exact rfl)
                         | (obtain ⟨q0, q1, q2, _⟩ := hWx.cells; go_simp; exact rfl)
                         | (obtain ⟨_, _, _, _, _, c0, c1, c2, c3, c4, c5, c6, c7, c8, c9, c10⟩ := hWx.cells; go_simp; exact rfl)
                         | (go_simp; first | (go_at_call 128; (refine (HCNT.out _ hWx.below kd).mono ?_; rw [HC.out]; rintro e w' ⟨rfl, rfl⟩; exact ⟨rfl, hWx.alloc _⟩)) | (go_at_call 129; (refine (isName_any _ nm hnm).mono ?_; rw [HN3.out]; rintro e w' ⟨rfl, rfl⟩; exact ⟨rfl, hWx⟩)))
                     clear hK K
                     try simp only [Act.put, List.setIfInBounds_toArray, List.set_cons_zero, List.set_cons_succ])
              refine wpQuiet_nil ?_
              intro w5 hW5
              have HW5 := Lib.hid hW5
              clear hW5
              obtain ⟨q0, q1, q2, q3, q4, _⟩ := HW5.out.cells
              have hbsz5 := HW5.out.below.size
              go_wp2_with (first | (at_mapUpdate; refine wpList_mapUpdate_own _ rfl _ _ _ 153 rfl 157 158 keyLaw Try.underlying153 (unitElem (H := Unit)) (w.heap.size + 1) k _ rfl HW5.out.own (by unfold maxLen; omega) _ _ _ rfl rfl HKEY.out _ [] unitElem_mk ?_; intro w4 hown4 hgrow4))
              have hb4 := HW5.out.below.grown hgrow4 hbsz5 (fun j hj => by cases hj; omega)
              have hx4 := HW5.out.box.grown hgrow4 (by simp)
              have HS4 := Lib.hid (HSEEN.out.put HKEY.out (.agg []))
              have HF4 := Lib.hid (HALL.out.trans HF.out)
              go_roundw
              case rel => first
                | exact ⟨k + 1, _, _, by omega, by go_num, hown4, HS4.out, HF4.out, hb4, hx4⟩
                | ((repeat apply Exists.intro); exact ⟨⟨k + 1, _, _, by omega, by go_num, hown4, HS4.out, HF4.out, hb4, hx4⟩, rfl⟩)
              case measure => first | (simp [intOf]; omega) | omega
          · have d2 : decide (cnt ≤ at_) = true := decide_eq_true (by omega)
            have HF := Lib.hid (symAll_stop (C := C) HX.out (show symB C ps ⟨kd, at_, nm⟩ = false by simp only [symB, Bool.and_eq_false_iff]; exact .inr (.inr (.inl (decide_eq_false (by rw [HC.out]; omega))))))
            clear h2
            go_wp2_with (first | (at_lookup; refine wpList_lookup_own_unit _ rfl _ _ 153 rfl 157 158 keyLaw Try.underlying153 (zeroUnit _) (w.heap.size + 1) k _ rfl ((HOWN.out.alloc _).alloc _) _ _ rfl HKEY.out ?_))
            refine wp_region_quiet (C := SymC w wr.heap.size k D ⟨kd, at_, nm⟩ #[.int .i64 C.max, Vi, Vl, Vo, Vb, Vc, Vj, Vf, Va, .slice (some ⟨b, off, none⟩) n c, Vt]) (by kernel_rfl) (by kernel_rfl) HC3.out ?_
            simp only
            repeat
              first
                | go_big_quiet_skip
                | (refine wpQuiet_step (fun K hK => ?_)
                   rw [if_pos (by rfl)]
                   unfold Oper.quiet
                   apply Exists.intro
                   refine And.intro (fun wx hWx => ?_) (hK _ ?_)
                   · first
                       | (go_simp; exact rfl)
                       | (obtain ⟨q0, q1, q2, _⟩ := hWx.cells; go_simp; exact rfl)
                       | (obtain ⟨_, _, _, _, _, c0, c1, c2, c3, c4, c5, c6, c7, c8, c9, c10⟩ := hWx.cells; go_simp; exact rfl)
                       | (go_simp; first | (refine (HCNT.out _ hWx.below kd).mono ?_; rw [HC.out]; rintro e w' ⟨rfl, rfl⟩; exact ⟨rfl, hWx.alloc _⟩))
                   clear hK K
                   try simp only [Act.put, List.setIfInBounds_toArray, List.set_cons_zero, List.set_cons_succ])
            refine wpQuiet_nil ?_
            intro w5 hW5
            have HW5 := Lib.hid hW5
            clear hW5
            go_wp2
            go_ret2
            exact ⟨ret_sym (HR.out.symm.trans (HALL.out.trans HF.out)), HW5.out.below⟩
      · rw [hs] at hhas
        have HF := Lib.hid (symAll_stop (C := C) HX.out (show symB C ps ⟨kd, at_, nm⟩ = false by simp only [symB, hs]; rfl))
        clear hs
        go_wp2_with (first | (at_lookup; refine wpList_lookup_own_unit _ rfl _ _ 153 rfl 157 158 keyLaw Try.underlying153 (zeroUnit _) (w.heap.size + 1) k _ rfl ((HOWN.out.alloc _).alloc _) _ _ rfl HKEY.out ?_))
        refine wp_region_quiet (C := SymC w wr.heap.size k D ⟨kd, at_, nm⟩ #[.int .i64 C.max, Vi, Vl, Vo, Vb, Vc, Vj, Vf, Va, .slice (some ⟨b, off, none⟩) n c, Vt]) (by kernel_rfl) (by kernel_rfl) HC3.out ?_
        simp only
        repeat
          first
            | go_big_quiet_skip
            | (refine wpQuiet_step (fun K hK => ?_)
               rw [if_pos (by rfl)]
               unfold Oper.quiet
               apply Exists.intro
               refine And.intro (fun wx hWx => ?_) (hK _ ?_)
               · first
                   | (go_simp; exact rfl)
                   | (obtain ⟨q0, q1, q2, _⟩ := hWx.cells; go_simp; exact rfl)
                   | (obtain ⟨_, _, _, _, _, c0, c1, c2, c3, c4, c5, c6, c7, c8, c9, c10⟩ := hWx.cells; go_simp; exact rfl)
                   | (go_simp; first | fail)
               clear hK K
               try simp only [Act.put, List.setIfInBounds_toArray, List.set_cons_zero, List.set_cons_succ])
        refine wpQuiet_nil ?_
        intro w5 hW5
        have HW5 := Lib.hid hW5
        clear hW5
        go_wp2
        go_ret2
        exact ⟨ret_sym (HR.out.symm.trans (HALL.out.trans HF.out)), HW5.out.below⟩
    · have : k = n := by omega
      subst this
      clear hown hall hbw hbox hseen
      go_wp2
      go_ret2
      exact ⟨ret_sym (HR.out.symm.trans (HALL.out.trans (symAll_end (by rw [HN.out]; exact Nat.le_refl _)))), HBW.out⟩
end Go.Proofs.Ytdodhbfplglbkaa

namespace Go.Proofs.Ytdodhbfplglbkaa
open Go.RowKit

/-- Has a text a byte 10? -/
def hasNl (s : ByteArray) : Bool := decide (0 ≤ Lib.indexByte s.data.toList 10)
def commE (s : ByteArray) : Int := if hasNl s = true then 36 else 0
theorem commE_yes {s : ByteArray} (h : hasNl s = true) : commE s = 36 := if_pos h
theorem commE_no {s : ByteArray} (h : hasNl s = false) : commE s = 0 := by unfold commE; rw [h]; rfl
def commR (C : Circ) : Int × Int := firstE commE C.comments 0
theorem ret_pair {k k' : IntKind} {a b : Int} {r : Int × Int} (h : r = (a, b)) : Ending.returned (.tuple #[.int k a, .int k' b]) = .returned (.tuple #[.int k r.1, .int k' r.2]) := by rw [h]

set_option maxHeartbeats 1000000 in
set_option maxRecDepth 100000 in
theorem checkComments_any (w : World) (V : CV) (C : Circ) (h : C.In w V) :
    Calls Try.prog 91 #[V.val C.max] w fun e w' => e = .returned (.tuple #[.int .i64 (commR C).1, .int .i64 (commR C).2]) ∧ Below w.heap.size w w' := by
  have HB := Lib.hid ((Below.refl w.heap.size w).alloc (Nat.le_refl _) (.cells (V.cells C.max) 29))
  have hT := h.t.below ((Below.refl w.heap.size w).alloc (Nat.le_refl _) (.cells (V.cells C.max) 29))
  have hl := hT.len
  unfold maxLen at hl
  obtain ⟨A, c, eT, _, _, hrun⟩ := hT
  obtain ⟨Vi, Vl, Vo, Vb, Vc, Vj, Vf, Va, Vs, Vt⟩ := V
  simp only at eT
  subst eT
  have HRUN := Lib.hid hrun
  clear hrun h
  generalize hr : commR C = r
  have HR := Lib.hid hr
  clear hr
  unfold commR at HR
  generalize hn : C.comments.length = n at *
  have HN := Lib.hid hn
  clear hn
  go_enter Try.func91, Try.ntmps91
  go_wp2
  go_loop [9] (fun i => ∃ k : Nat, k ≤ n ∧ i = .int .i64 k ∧ firstE commE C.comments 0 = firstE commE (C.comments.drop k) k) (fun i => n - (intOf i).toNat)
  case atStart => exact ⟨0, Nat.zero_le _, rfl, rfl⟩
  case round =>
    obtain ⟨k, hk, rfl, hall⟩ := hrel
    have HA := Lib.hid hall
    clear hall
    by_cases hlt : k < n
    · have hx := List.getElem?_eq_getElem (l := C.comments) (i := k) (by rw [HN.out]; exact hlt)
      generalize C.comments[k]'(by rw [HN.out]; exact hlt) = x at hx
      obtain ⟨b, off, rfl, hb, hcell⟩ := HRUN.out k x hx
      have h0 := hcell 0 _ rfl
      simp only [Nat.add_zero, Nat.mul_one] at h0
      have HX := Lib.hid hx
      clear hx hcell
      have hcon := fun wx => Try.strings_Contains_one x 10 wx
      change ∀ wx, Calls Try.prog 130 _ wx fun e w' => e = .returned (.bool (hasNl x)) ∧ w' = wx at hcon
      cases hc : hasNl x
      · rw [hc] at hcon
        have HC := Lib.hid (commE_no hc)
        clear hc
        go_wp2_with (go_at_call 130; refine (hcon _).mono ?_; rintro e w' ⟨rfl, rfl⟩)
        go_round
        case rel => exact ⟨k + 1, by omega, by go_num, by rw [HA.out, firstE_step HX.out HC.out]⟩
        case measure => simp [intOf]; omega
      · rw [hc] at hcon
        have HC := Lib.hid (commE_yes hc)
        clear hc
        go_wp2_with (go_at_call 130; refine (hcon _).mono ?_; rintro e w' ⟨rfl, rfl⟩)
        go_ret2
        have hs := firstE_stop HX.out (f := commE) (by rw [HC.out]; decide)
        rw [HC.out] at hs
        exact ⟨ret_pair (HR.out.symm.trans (HA.out.trans hs)), HB.out⟩
    · have : k = n := by omega
      subst this
      go_wp2
      go_ret2
      exact ⟨ret_pair (HR.out.symm.trans (HA.out.trans (firstE_end (by rw [HN.out]; exact Nat.le_refl _)))), HB.out⟩
end Go.Proofs.Ytdodhbfplglbkaa

namespace Go.Proofs.Ytdodhbfplglbkaa
open Go.RowKit

theorem defE_zero {tb : List Bool} {l : Int} (h : defE tb l = 0) : 2 ≤ l ∧ l / 2 < (tb.length : Int) := by
  by_cases hc : l < 2 ∨ l % 2 = 1 ∨ (tb.length : Int) ≤ l / 2
  · rw [defE_bad hc] at h; cases h
  · omega
theorem defAll_ok {α : Type} {lit bad : α → Int} : ∀ (xs : List α) (k : Nat) (tb : List Bool), (defAll lit bad xs k tb).1.2 = 0 → ∀ x ∈ xs, 2 ≤ lit x ∧ lit x / 2 < (tb.length : Int)
  | [], _, _, _, x, hx => by simp at hx
  | y :: r, k, tb, h, x, hx => by
    unfold defAll at h
    by_cases h0 : defE tb (lit y) = 0
    · rw [if_pos h0] at h
      by_cases h1 : bad y = 0
      · rw [if_pos h1] at h
        rcases List.mem_cons.1 hx with rfl | hx
        · exact defE_zero h0
        · have := defAll_ok r (k + 1) _ h x hx
          rwa [defT_len] at this
      · rw [if_neg h1] at h; exact absurd h h1
    · rw [if_neg h0] at h; exact absurd h h0
theorem firstE_ok {α : Type} {f : α → Int} : ∀ (xs : List α) (k : Nat), (firstE f xs k).2 = 0 → ∀ x ∈ xs, f x = 0
  | [], _, _, x, hx => by simp at hx
  | y :: r, k, h, x, hx => by
    unfold firstE at h
    by_cases h0 : f y = 0
    · rw [if_pos h0] at h
      rcases List.mem_cons.1 hx with rfl | hx
      · exact h0
      · exact firstE_ok r (k + 1) h x hx
    · rw [if_neg h0] at h; exact absurd h h0
theorem useE_zero {tb : List Bool} {l : Int} (h : useE tb l = 0) : 0 ≤ l ∧ l / 2 < (tb.length : Int) := by
  by_cases hc : l < 0 ∨ (tb.length : Int) ≤ l / 2
  · rw [useE_bad hc] at h; cases h
  · omega
theorem thenE_ok {a b : Int × Int} (h : (thenE a b).2 = 0) : a.2 = 0 ∧ b.2 = 0 := by
  unfold thenE at h
  by_cases h0 : a.2 = 0
  · rw [if_pos h0] at h; exact ⟨h0, h⟩
  · rw [if_neg h0] at h; exact absurd h h0
theorem defR_ok {C : Circ} {tb : List Bool} (h : (defR C tb).1.2 = 0) : ∀ z ∈ C.ands, 2 ≤ z.1 ∧ z.1 / 2 < (tb.length : Int) := by
  unfold defR at h
  by_cases h0 : (defI C tb).1.2 = 0
  · rw [if_pos h0] at h
    by_cases h1 : (defL C (defI C tb).2).1.2 = 0
    · rw [if_pos h1] at h
      intro z hz
      have := defAll_ok _ _ _ h z hz
      unfold defL defI at this
      rwa [defAll_len, defAll_len] at this
    · rw [if_neg h1] at h; exact absurd h h1
  · rw [if_neg h0] at h; exact absurd h h0
theorem usedR_ok {C : Circ} {tb : List Bool} (h : (usedR C tb).2 = 0) : ∀ z ∈ C.ands, (0 ≤ z.2.1 ∧ z.2.1 / 2 < (tb.length : Int)) ∧ (0 ≤ z.2.2 ∧ z.2.2 / 2 < (tb.length : Int)) := by
  unfold usedR at h
  have h6 := (thenE_ok (thenE_ok (thenE_ok (thenE_ok (thenE_ok (thenE_ok h).2).2).2).2).2).2
  intro z hz
  have hg := firstE_ok _ _ h6 z hz
  unfold gateE at hg
  by_cases h0 : useE tb z.2.1 = 0
  · rw [if_pos h0] at hg; exact ⟨useE_zero h0, useE_zero hg⟩
  · rw [if_neg h0] at hg; exact absurd hg h0
theorem gateF_ok : ∀ (zs : List Tri) (i n : Nat) (G : List Int), i + zs.length ≤ n → (∀ x ∈ G, UseOk n x) → ∀ x ∈ gateF zs i G, UseOk n x
  | [], _, _, _, _, h => h
  | z :: r, i, n, G, hl, h => by
    unfold gateF
    refine gateF_ok r (i + 1) n _ (by simp at hl; omega) fun x hx => ?_
    rcases List.mem_or_eq_of_mem_set hx with hx | rfl
    · exact h x hx
    · right; simp at hl; omega
theorem fit_of {C : Circ} {tb : List Bool} {t2 : List Bool} (h1 : (defR C tb).1.2 = 0) (h2 : (usedR C t2).2 = 0) (hl : (tb.length : Int) = C.max + 1) (hl2 : t2.length = tb.length) : ∀ z ∈ C.ands, FitT C.max z := by
  intro z hz
  have a := defR_ok h1 z hz
  have b := usedR_ok h2 z hz
  rw [hl2] at b
  refine ⟨⟨by omega, by omega⟩, ⟨b.1.1, by omega⟩, ⟨b.2.1, by omega⟩⟩
theorem usesC_ok {C : Circ} (hm : 0 ≤ C.max) (hf : ∀ z ∈ C.ands, FitT C.max z) : UsesOk (usesC C).length (usesC C) := by
  have hlen : (usesC C).length = C.ands.length := by simp [usesC]
  refine ⟨rfl, fun p hp => ?_⟩
  rw [hlen]
  unfold usesC at hp
  obtain ⟨z, hz, rfl⟩ := List.mem_map.1 hp
  have hG : ∀ x ∈ gateOf C, UseOk C.ands.length x := gateF_ok _ _ _ _ (by simp) (fun x hx => by left; exact (List.mem_replicate.1 hx).2)
  have hGl : (gateOf C).length = C.max.toNat + 1 := by unfold gateOf; rw [gateF_len]; simp
  obtain ⟨_, ⟨a1, a2⟩, ⟨b1, b2⟩⟩ := hf z hz
  have key : ∀ l : Int, 0 ≤ l → l / 2 ≤ C.max → UseOk C.ands.length ((gateOf C).getD (l / 2).toNat 0) := fun l h0 h1 => by
    have hk : (l / 2).toNat < (gateOf C).length := by rw [hGl]; omega
    have e : (gateOf C).getD (l / 2).toNat 0 = (gateOf C)[(l / 2).toNat] := by simp [List.getD, hk]
    rw [e]; exact hG _ (List.getElem_mem hk)
  exact ⟨key _ a1 a2, key _ b1 b2⟩
theorem sizes_ok {C : Circ} (h : sizesE C = 0) : 0 ≤ C.max ∧ C.max ≤ 16384 ∧ C.ands.length ≤ 16384 ∧ C.symbols.length ≤ 16384 := by
  by_cases hc : C.max < 0 ∨ 16384 < C.max
  · rw [sizesE_range hc] at h; cases h
  · have hall : ∀ x ∈ sizesL C, x ≤ 16384 := fun x hx => by
      rcases Int.lt_or_le 16384 x with hl | hl
      · rw [sizesE_long hc hx hl] at h; cases h
      · exact hl
    have h1 := hall (C.ands.length : Int) (by simp [sizesL])
    have h2 := hall (C.symbols.length : Int) (by simp [sizesL])
    omega
/-- What Check answers. -/
def checkR (C : Circ) : Int × Int :=
  if sizesE C ≠ 0 then (0, sizesE C) else
  if (defR C (tab0 C.max.toNat)).1.2 ≠ 0 then (defR C (tab0 C.max.toNat)).1 else
  if (usedR C (defR C (tab0 C.max.toNat)).2).2 ≠ 0 then usedR C (defR C (tab0 C.max.toNat)).2 else
  if firstF (usesC C) ≠ -1 then (firstF (usesC C), 34) else
  if (symR C).2 ≠ 0 then symR C else commR C
end Go.Proofs.Ytdodhbfplglbkaa

namespace Go.Proofs.Ytdodhbfplglbkaa
open Go.RowKit

theorem box_cells {w w' : World} {m : Int} {Vi Vl Vo Vb Vc Vj Vf Va Vs Vt : Value} (hb : Below (w.alloc (.cells #[.int .i64 m, Vi, Vl, Vo, Vb, Vc, Vj, Vf, Va, Vs, Vt] 29)).heap.size (w.alloc (.cells #[.int .i64 m, Vi, Vl, Vo, Vb, Vc, Vj, Vf, Va, Vs, Vt] 29)) w') :
    w'.cell? ⟨w.heap.size, 0, none⟩ = some (.int .i64 m) ∧ w'.cell? ⟨w.heap.size, 1, none⟩ = some Vi ∧ w'.cell? ⟨w.heap.size, 2, none⟩ = some Vl ∧ w'.cell? ⟨w.heap.size, 3, none⟩ = some Vo ∧ w'.cell? ⟨w.heap.size, 4, none⟩ = some Vb ∧ w'.cell? ⟨w.heap.size, 5, none⟩ = some Vc ∧ w'.cell? ⟨w.heap.size, 6, none⟩ = some Vj ∧ w'.cell? ⟨w.heap.size, 7, none⟩ = some Vf ∧ w'.cell? ⟨w.heap.size, 8, none⟩ = some Va ∧ w'.cell? ⟨w.heap.size, 9, none⟩ = some Vs ∧ w'.cell? ⟨w.heap.size, 10, none⟩ = some Vt := by
  have h := (Blk.new w 29 #[.int .i64 m, Vi, Vl, Vo, Vb, Vc, Vj, Vf, Va, Vs, Vt]).below hb (by simp)
  exact ⟨h.cell 0, h.cell 1, h.cell 2, h.cell 3, h.cell 4, h.cell 5, h.cell 6, h.cell 7, h.cell 8, h.cell 9, h.cell 10⟩
theorem ret_check {k k' : IntKind} {a b : Int} {r : Int × Int} (h : r = (a, b)) : Ending.returned (.tuple #[.int k a, .int k' b]) = .returned (.tuple #[.int k r.1, .int k' r.2]) := by rw [h]
section
variable {C : Circ}
theorem checkR_size (h : sizesE C ≠ 0) : checkR C = (0, sizesE C) := if_pos h
theorem checkR_def {p : Int × Int} {t : List Bool} (h : sizesE C = 0) (hd : defR C (tab0 C.max.toNat) = (p, t)) (h0 : p.2 ≠ 0) : checkR C = p := by unfold checkR; rw [if_neg (by simp [h]), hd]; exact if_pos h0
theorem checkR_use {d p : Int × Int} {t : List Bool} (h : sizesE C = 0) (hd : defR C (tab0 C.max.toNat) = (d, t)) (h0 : d.2 = 0) (hu : usedR C t = p) (h1 : p.2 ≠ 0) : checkR C = p := by unfold checkR; rw [if_neg (by simp [h]), hd, if_neg (by simp [h0]), hu]; exact if_pos h1
theorem checkR_round {d p : Int × Int} {t : List Bool} {f : Int} (h : sizesE C = 0) (hd : defR C (tab0 C.max.toNat) = (d, t)) (h0 : d.2 = 0) (hu : usedR C t = p) (h1 : p.2 = 0) (hf : firstF (usesC C) = f) (h2 : f ≠ -1) : checkR C = (f, 34) := by unfold checkR; rw [if_neg (by simp [h]), hd, if_neg (by simp [h0]), hu, if_neg (by simp [h1]), hf]; exact if_pos h2
theorem checkR_sym {d p s : Int × Int} {t : List Bool} (h : sizesE C = 0) (hd : defR C (tab0 C.max.toNat) = (d, t)) (h0 : d.2 = 0) (hu : usedR C t = p) (h1 : p.2 = 0) (hf : firstF (usesC C) = -1) (hs : symR C = s) (h3 : s.2 ≠ 0) : checkR C = s := by unfold checkR; rw [if_neg (by simp [h]), hd, if_neg (by simp [h0]), hu, if_neg (by simp [h1]), hf, if_neg (by simp), hs]; exact if_pos h3
theorem checkR_comm {d p s c : Int × Int} {t : List Bool} (h : sizesE C = 0) (hd : defR C (tab0 C.max.toNat) = (d, t)) (h0 : d.2 = 0) (hu : usedR C t = p) (h1 : p.2 = 0) (hf : firstF (usesC C) = -1) (hs : symR C = s) (h3 : s.2 = 0) (hc : commR C = c) : checkR C = c := by unfold checkR; rw [if_neg (by simp [h]), hd, if_neg (by simp [h0]), hu, if_neg (by simp [h1]), hf, if_neg (by simp), hs, if_neg (by simp [h3]), hc]
end

set_option maxHeartbeats 4000000 in
set_option maxRecDepth 100000 in
theorem Check_any (w : World) (V : CV) (C : Circ) (h : C.In w V) (ok : C.Ok) :
    Calls Try.prog 44 #[V.val C.max] w fun e w' => e = .returned (.tuple #[.int .i64 (checkR C).1, .int .i64 (checkR C).2]) ∧ Below w.heap.size w w' := by
  have HB := Lib.hid ((Below.refl w.heap.size w).alloc (Nat.le_refl _) (.cells (V.cells C.max) 29))
  have hin := h.below HB.out
  have HR := Lib.hid (Below.refl (w.alloc (.cells (V.cells C.max) 29)).heap.size (w.alloc (.cells (V.cells C.max) 29)))
  have HIN := Lib.hid hin
  have HOK := Lib.hid ok
  have HEND := Lib.hid (fun (wx : World) (hx : Below (w.alloc (.cells (V.cells C.max) 29)).heap.size (w.alloc (.cells (V.cells C.max) 29)) wx) => HB.out.trans (hx.mono (by simp)))
  have hsize := fun (wx : World) (hx : C.In wx V) => checkSizes_any wx V C hx
  have hdef := fun (wx : World) (g : Nat) (tb : List Bool) hb hg ht hl => checkDefined_any (w.alloc (.cells (V.cells C.max) 29)) wx V C hin ok g tb hb hg ht hl
  have huse := fun (wx : World) (g : Nat) (tb : List Bool) hb ht hl => checkUsed_any (w.alloc (.cells (V.cells C.max) 29)) wx V C hin ok g tb hb ht hl
  have huses := fun (wx : World) (hx : C.In wx V) h0 h1 h2 h3 => usesOf_any wx V C hx h0 h1 h2 h3
  have hsym := fun (wx : World) (hx : C.In wx V) h2 => checkSymbols_any wx V C hx ok ok.sn h2
  have hcom := fun (wx : World) (hx : C.In wx V) => checkComments_any wx V C hx
  have HSIZE := Lib.hid hsize
  have HDEF := Lib.hid hdef
  have HUSE := Lib.hid huse
  have HUSES := Lib.hid huses
  have HSYM := Lib.hid hsym
  have HCOM := Lib.hid hcom
  clear h hin ok hsize hdef huse huses hsym hcom HB
  obtain ⟨Vi, Vl, Vo, Vb, Vc, Vj, Vf, Va, Vs, Vt⟩ := V
  obtain ⟨s, hs⟩ : ∃ s, sizesE C = s := ⟨_, rfl⟩
  have HS := Lib.hid hs
  obtain ⟨r, hr⟩ : ∃ r, checkR C = r := ⟨_, rfl⟩
  have HRR := Lib.hid hr
  rw [hr]
  clear hs hr
  by_cases h0 : s = 0
  · subst h0
    have hso := sizes_ok HS.out
    obtain ⟨m, hmm⟩ : ∃ m : Nat, C.max = (m : Int) := ⟨C.max.toNat, by omega⟩
    have hm : m ≤ 16384 := by omega
    have HM0 := Lib.hid hso.1
    have HM1 := Lib.hid hso.2.1
    have HM2 := Lib.hid hso.2.2.1
    have HM3 := Lib.hid hso.2.2.2
    have hmt : C.max.toNat = m := by rw [hmm]; rfl
    have HMT := Lib.hid hmt
    have HMM := Lib.hid hmm
    have hnt : ∀ wx : World, Calls Try.prog 85 #[.int .i64 C.max] wx fun e w' => ∃ g, e = .returned (.slice (some ⟨g, 0, none⟩) (m + 1) (m + 1)) ∧ wx.heap.size ≤ g ∧ Below wx.heap.size wx w' ∧ Tab w' g (tab0 m) := fun wx => by rw [hmm]; exact newTable_any wx m hm
    have HNT := Lib.hid hnt
    clear hso hmt hnt hmm
    obtain ⟨⟨d1, d2⟩, td, hd⟩ : ∃ d td, defR C (tab0 m) = (d, td) := ⟨_, _, rfl⟩
    have HD := Lib.hid hd
    have HD' : Hid (defR C (tab0 C.max.toNat) = ((d1, d2), td)) := Lib.hid (by rw [HMT.out]; exact hd)
    have hdf := fun (wx : World) (g : Nat) hb hg ht => HDEF.out wx g (tab0 m) hb hg ht (by rw [tab0_len]; omega)
    rw [tab0_len] at hdf
    have HDF := Lib.hid hdf
    clear hdf
    have HTD : Hid (td.length = m + 1) := Lib.hid (by have := defR_len C (tab0 m); rw [hd, tab0_len] at this; exact this)
    clear hd
    by_cases h0 : d2 = 0
    · subst h0
      have HD0 : Hid ((defR C (tab0 m)).1.2 = 0) := Lib.hid (by rw [HD.out])
      obtain ⟨⟨u1, u2⟩, hu⟩ : ∃ u, usedR C td = u := ⟨_, rfl⟩
      have HU := Lib.hid hu
      have hus := fun (wx : World) (g : Nat) hb ht => HUSE.out wx g td hb ht (by rw [HTD.out]; omega)
      rw [HTD.out] at hus
      have HUS := Lib.hid hus
      clear hu hus
      by_cases h0 : u2 = 0
      · subst h0
        have HFIT : Hid (∀ z ∈ C.ands, FitT C.max z) := Lib.hid (fit_of (tb := tab0 m) (t2 := td) HD0.out (by rw [HU.out]) (by rw [tab0_len, HMM.out]; push_cast; rfl) (by rw [HTD.out, tab0_len]))
        have HFR : Hid (∀ (wx : World) (g2 : Nat), Prs wx g2 (usesC C) → Calls Try.prog 88 #[.slice (some ⟨g2, 0, none⟩) C.ands.length C.ands.length] wx fun e w' => e = .returned (.int .i64 (firstF (usesC C))) ∧ Below wx.heap.size wx w') := Lib.hid (fun wx g2 hp => by
          have hl : (usesC C).length = C.ands.length := by simp [usesC]
          have := firstRound_any wx g2 (usesC C) hp (usesC_ok HM0.out HFIT.out) (by rw [hl]; exact HM2.out)
          rwa [hl] at this)
        obtain ⟨f, hf⟩ : ∃ f, firstF (usesC C) = f := ⟨_, rfl⟩
        have HF := Lib.hid hf
        clear hf
        by_cases h0 : f = -1
        · subst h0
          obtain ⟨⟨y1, y2⟩, hy⟩ : ∃ y, symR C = y := ⟨_, rfl⟩
          have HSY := Lib.hid hy
          clear hy
          by_cases h0 : y2 = 0
          · subst h0
            obtain ⟨⟨c1, c2⟩, hc⟩ : ∃ c, commR C = c := ⟨_, rfl⟩
            have HCO := Lib.hid hc
            clear hc
            have HRS := Lib.hid (checkR_comm HS.out HD'.out rfl HU.out rfl HF.out HSY.out rfl HCO.out)
            go_enter Try.func44, Try.ntmps44
            go_wp2_with (first | (go_at_call 84; refine (HSIZE.out _ HIN.out).mono ?_; rw [HS.out]; rintro e w1 ⟨rfl, hb⟩; have hx1 := bt HR.out (Nat.le_refl _) hb; have HX1 := Lib.hid hx1; obtain ⟨b0, b1, b2, b3, b4, b5, b6, b7, b8, b9, b10⟩ := box_cells hx1; clear hx1 hb) | (go_at_call 85; refine (HNT.out _).mono ?_; rintro e w2 ⟨g, rfl, hg, hb, ht⟩; have HG := Lib.hid (Nat.le_trans HX1.out.size hg); have HT := Lib.hid ht; clear hg ht; have hx2 := bt HX1.out (Nat.le_refl _) hb; have HX2 := Lib.hid hx2; obtain ⟨b0, b1, b2, b3, b4, b5, b6, b7, b8, b9, b10⟩ := box_cells hx2; clear hx2 hb) | (go_at_call 86; refine (HDF.out _ g HX2.out HG.out HT.out).mono ?_; rw [HD.out]; rintro e w3 ⟨rfl, hb3, ht3⟩; have HX3 := Lib.hid hb3; have HT3 := Lib.hid ht3; obtain ⟨b0, b1, b2, b3, b4, b5, b6, b7, b8, b9, b10⟩ := box_cells hb3; clear hb3 ht3) | (go_at_call 87; refine (HUS.out _ g HX3.out (HT3.out (by first | rfl | trivial))).mono ?_; rw [HU.out]; rintro e w4 ⟨rfl, hb⟩; have hx4 := bt HX3.out (Nat.le_refl _) hb; have HX4 := Lib.hid hx4; obtain ⟨b0, b1, b2, b3, b4, b5, b6, b7, b8, b9, b10⟩ := box_cells hx4; clear hx4 hb) | (go_at_call 89; refine (HUSES.out _ (HIN.out.below HX4.out) HM0.out HM1.out HM2.out HFIT.out).mono ?_; rintro e w5 ⟨g2, rfl, hg2, hb, hp2⟩; have HP2 := Lib.hid hp2; clear hg2 hp2; have hx5 := bt HX4.out (Nat.le_refl _) hb; have HX5 := Lib.hid hx5; obtain ⟨b0, b1, b2, b3, b4, b5, b6, b7, b8, b9, b10⟩ := box_cells hx5; clear hx5 hb) | (go_at_call 88; refine (HFR.out _ g2 HP2.out).mono ?_; rw [HF.out]; rintro e w6 ⟨rfl, hb⟩; have hx6 := bt HX5.out (Nat.le_refl _) hb; have HX6 := Lib.hid hx6; obtain ⟨b0, b1, b2, b3, b4, b5, b6, b7, b8, b9, b10⟩ := box_cells hx6; clear hx6 hb) | (go_at_call 90; refine (HSYM.out _ (HIN.out.below HX6.out) HM3.out).mono ?_; rw [HSY.out]; rintro e w7 ⟨rfl, hb⟩; have hx7 := bt HX6.out (Nat.le_refl _) hb; have HX7 := Lib.hid hx7; obtain ⟨b0, b1, b2, b3, b4, b5, b6, b7, b8, b9, b10⟩ := box_cells hx7; clear hx7 hb) | (go_at_call 91; refine (HCOM.out _ (HIN.out.below HX7.out)).mono ?_; rw [HCO.out]; rintro e w8 ⟨rfl, hb⟩; have hx8 := bt HX7.out (Nat.le_refl _) hb; have HX8 := Lib.hid hx8; obtain ⟨b0, b1, b2, b3, b4, b5, b6, b7, b8, b9, b10⟩ := box_cells hx8; clear hx8 hb))
            go_ret2
            exact ⟨ret_check (by rw [← HRR.out, HRS.out]), HEND.out _ HX8.out⟩
          · have HRS := Lib.hid (checkR_sym HS.out HD'.out rfl HU.out rfl HF.out HSY.out h0)
            have q1 : (y2 == 0) = false := by simpa using h0
            have q2 : (y2 != 0) = true := by simpa using h0
            clear h0
            go_enter Try.func44, Try.ntmps44
            go_wp2_with (first | (go_at_call 84; refine (HSIZE.out _ HIN.out).mono ?_; rw [HS.out]; rintro e w1 ⟨rfl, hb⟩; have hx1 := bt HR.out (Nat.le_refl _) hb; have HX1 := Lib.hid hx1; obtain ⟨b0, b1, b2, b3, b4, b5, b6, b7, b8, b9, b10⟩ := box_cells hx1; clear hx1 hb) | (go_at_call 85; refine (HNT.out _).mono ?_; rintro e w2 ⟨g, rfl, hg, hb, ht⟩; have HG := Lib.hid (Nat.le_trans HX1.out.size hg); have HT := Lib.hid ht; clear hg ht; have hx2 := bt HX1.out (Nat.le_refl _) hb; have HX2 := Lib.hid hx2; obtain ⟨b0, b1, b2, b3, b4, b5, b6, b7, b8, b9, b10⟩ := box_cells hx2; clear hx2 hb) | (go_at_call 86; refine (HDF.out _ g HX2.out HG.out HT.out).mono ?_; rw [HD.out]; rintro e w3 ⟨rfl, hb3, ht3⟩; have HX3 := Lib.hid hb3; have HT3 := Lib.hid ht3; obtain ⟨b0, b1, b2, b3, b4, b5, b6, b7, b8, b9, b10⟩ := box_cells hb3; clear hb3 ht3) | (go_at_call 87; refine (HUS.out _ g HX3.out (HT3.out (by first | rfl | trivial))).mono ?_; rw [HU.out]; rintro e w4 ⟨rfl, hb⟩; have hx4 := bt HX3.out (Nat.le_refl _) hb; have HX4 := Lib.hid hx4; obtain ⟨b0, b1, b2, b3, b4, b5, b6, b7, b8, b9, b10⟩ := box_cells hx4; clear hx4 hb) | (go_at_call 89; refine (HUSES.out _ (HIN.out.below HX4.out) HM0.out HM1.out HM2.out HFIT.out).mono ?_; rintro e w5 ⟨g2, rfl, hg2, hb, hp2⟩; have HP2 := Lib.hid hp2; clear hg2 hp2; have hx5 := bt HX4.out (Nat.le_refl _) hb; have HX5 := Lib.hid hx5; obtain ⟨b0, b1, b2, b3, b4, b5, b6, b7, b8, b9, b10⟩ := box_cells hx5; clear hx5 hb) | (go_at_call 88; refine (HFR.out _ g2 HP2.out).mono ?_; rw [HF.out]; rintro e w6 ⟨rfl, hb⟩; have hx6 := bt HX5.out (Nat.le_refl _) hb; have HX6 := Lib.hid hx6; obtain ⟨b0, b1, b2, b3, b4, b5, b6, b7, b8, b9, b10⟩ := box_cells hx6; clear hx6 hb) | (go_at_call 90; refine (HSYM.out _ (HIN.out.below HX6.out) HM3.out).mono ?_; rw [HSY.out]; rintro e w7 ⟨rfl, hb⟩; have hx7 := bt HX6.out (Nat.le_refl _) hb; have HX7 := Lib.hid hx7; obtain ⟨b0, b1, b2, b3, b4, b5, b6, b7, b8, b9, b10⟩ := box_cells hx7; clear hx7 hb))
            go_ret2
            exact ⟨ret_check (by rw [← HRR.out, HRS.out]), HEND.out _ HX7.out⟩
        · have HRS := Lib.hid (checkR_round HS.out HD'.out rfl HU.out rfl HF.out h0)
          have q1 : (f == -1) = false := by simpa using h0
          have q2 : (f != -1) = true := by simpa using h0
          clear h0
          go_enter Try.func44, Try.ntmps44
          go_wp2_with (first | (go_at_call 84; refine (HSIZE.out _ HIN.out).mono ?_; rw [HS.out]; rintro e w1 ⟨rfl, hb⟩; have hx1 := bt HR.out (Nat.le_refl _) hb; have HX1 := Lib.hid hx1; obtain ⟨b0, b1, b2, b3, b4, b5, b6, b7, b8, b9, b10⟩ := box_cells hx1; clear hx1 hb) | (go_at_call 85; refine (HNT.out _).mono ?_; rintro e w2 ⟨g, rfl, hg, hb, ht⟩; have HG := Lib.hid (Nat.le_trans HX1.out.size hg); have HT := Lib.hid ht; clear hg ht; have hx2 := bt HX1.out (Nat.le_refl _) hb; have HX2 := Lib.hid hx2; obtain ⟨b0, b1, b2, b3, b4, b5, b6, b7, b8, b9, b10⟩ := box_cells hx2; clear hx2 hb) | (go_at_call 86; refine (HDF.out _ g HX2.out HG.out HT.out).mono ?_; rw [HD.out]; rintro e w3 ⟨rfl, hb3, ht3⟩; have HX3 := Lib.hid hb3; have HT3 := Lib.hid ht3; obtain ⟨b0, b1, b2, b3, b4, b5, b6, b7, b8, b9, b10⟩ := box_cells hb3; clear hb3 ht3) | (go_at_call 87; refine (HUS.out _ g HX3.out (HT3.out (by first | rfl | trivial))).mono ?_; rw [HU.out]; rintro e w4 ⟨rfl, hb⟩; have hx4 := bt HX3.out (Nat.le_refl _) hb; have HX4 := Lib.hid hx4; obtain ⟨b0, b1, b2, b3, b4, b5, b6, b7, b8, b9, b10⟩ := box_cells hx4; clear hx4 hb) | (go_at_call 89; refine (HUSES.out _ (HIN.out.below HX4.out) HM0.out HM1.out HM2.out HFIT.out).mono ?_; rintro e w5 ⟨g2, rfl, hg2, hb, hp2⟩; have HP2 := Lib.hid hp2; clear hg2 hp2; have hx5 := bt HX4.out (Nat.le_refl _) hb; have HX5 := Lib.hid hx5; obtain ⟨b0, b1, b2, b3, b4, b5, b6, b7, b8, b9, b10⟩ := box_cells hx5; clear hx5 hb) | (go_at_call 88; refine (HFR.out _ g2 HP2.out).mono ?_; rw [HF.out]; rintro e w6 ⟨rfl, hb⟩; have hx6 := bt HX5.out (Nat.le_refl _) hb; have HX6 := Lib.hid hx6; obtain ⟨b0, b1, b2, b3, b4, b5, b6, b7, b8, b9, b10⟩ := box_cells hx6; clear hx6 hb))
          go_ret2
          exact ⟨ret_check (by rw [← HRR.out, HRS.out]), HEND.out _ HX6.out⟩
      · have HRS := Lib.hid (checkR_use HS.out HD'.out rfl HU.out h0)
        have q1 : (u2 == 0) = false := by simpa using h0
        have q2 : (u2 != 0) = true := by simpa using h0
        clear h0
        go_enter Try.func44, Try.ntmps44
        go_wp2_with (first | (go_at_call 84; refine (HSIZE.out _ HIN.out).mono ?_; rw [HS.out]; rintro e w1 ⟨rfl, hb⟩; have hx1 := bt HR.out (Nat.le_refl _) hb; have HX1 := Lib.hid hx1; obtain ⟨b0, b1, b2, b3, b4, b5, b6, b7, b8, b9, b10⟩ := box_cells hx1; clear hx1 hb) | (go_at_call 85; refine (HNT.out _).mono ?_; rintro e w2 ⟨g, rfl, hg, hb, ht⟩; have HG := Lib.hid (Nat.le_trans HX1.out.size hg); have HT := Lib.hid ht; clear hg ht; have hx2 := bt HX1.out (Nat.le_refl _) hb; have HX2 := Lib.hid hx2; obtain ⟨b0, b1, b2, b3, b4, b5, b6, b7, b8, b9, b10⟩ := box_cells hx2; clear hx2 hb) | (go_at_call 86; refine (HDF.out _ g HX2.out HG.out HT.out).mono ?_; rw [HD.out]; rintro e w3 ⟨rfl, hb3, ht3⟩; have HX3 := Lib.hid hb3; have HT3 := Lib.hid ht3; obtain ⟨b0, b1, b2, b3, b4, b5, b6, b7, b8, b9, b10⟩ := box_cells hb3; clear hb3 ht3) | (go_at_call 87; refine (HUS.out _ g HX3.out (HT3.out (by first | rfl | trivial))).mono ?_; rw [HU.out]; rintro e w4 ⟨rfl, hb⟩; have hx4 := bt HX3.out (Nat.le_refl _) hb; have HX4 := Lib.hid hx4; obtain ⟨b0, b1, b2, b3, b4, b5, b6, b7, b8, b9, b10⟩ := box_cells hx4; clear hx4 hb))
        go_ret2
        exact ⟨ret_check (by rw [← HRR.out, HRS.out]), HEND.out _ HX4.out⟩
    · have HRS := Lib.hid (checkR_def HS.out HD'.out h0)
      have q1 : (d2 == 0) = false := by simpa using h0
      have q2 : (d2 != 0) = true := by simpa using h0
      clear h0
      go_enter Try.func44, Try.ntmps44
      go_wp2_with (first | (go_at_call 84; refine (HSIZE.out _ HIN.out).mono ?_; rw [HS.out]; rintro e w1 ⟨rfl, hb⟩; have hx1 := bt HR.out (Nat.le_refl _) hb; have HX1 := Lib.hid hx1; obtain ⟨b0, b1, b2, b3, b4, b5, b6, b7, b8, b9, b10⟩ := box_cells hx1; clear hx1 hb) | (go_at_call 85; refine (HNT.out _).mono ?_; rintro e w2 ⟨g, rfl, hg, hb, ht⟩; have HG := Lib.hid (Nat.le_trans HX1.out.size hg); have HT := Lib.hid ht; clear hg ht; have hx2 := bt HX1.out (Nat.le_refl _) hb; have HX2 := Lib.hid hx2; obtain ⟨b0, b1, b2, b3, b4, b5, b6, b7, b8, b9, b10⟩ := box_cells hx2; clear hx2 hb) | (go_at_call 86; refine (HDF.out _ g HX2.out HG.out HT.out).mono ?_; rw [HD.out]; rintro e w3 ⟨rfl, hb3, ht3⟩; have HX3 := Lib.hid hb3; have HT3 := Lib.hid ht3; obtain ⟨b0, b1, b2, b3, b4, b5, b6, b7, b8, b9, b10⟩ := box_cells hb3; clear hb3 ht3))
      go_ret2
      exact ⟨ret_check (by rw [← HRR.out, HRS.out]), HEND.out _ HX3.out⟩
  · have HRS := Lib.hid (checkR_size (by rw [HS.out]; exact h0))
    have q1 : (s == 0) = false := by simpa using h0
    have q2 : (s != 0) = true := by simpa using h0
    have H0 := Lib.hid h0
    clear h0
    go_enter Try.func44, Try.ntmps44
    go_wp2_with (first | (go_at_call 84; refine (HSIZE.out _ HIN.out).mono ?_; rw [HS.out]; rintro e w1 ⟨rfl, hb⟩; have hx1 := bt HR.out (Nat.le_refl _) hb; have HX1 := Lib.hid hx1; obtain ⟨b0, b1, b2, b3, b4, b5, b6, b7, b8, b9, b10⟩ := box_cells hx1; clear hx1 hb))
    go_ret2
    exact ⟨ret_check (by rw [← HRR.out, HRS.out, HS.out]), HEND.out _ HX1.out⟩
end Go.Proofs.Ytdodhbfplglbkaa

/- The contract of checkSymbols: each symbol against those ahead of it (a set keyed by kind and number). -/
import Derived.Test.YtfbnhkndlohalaaSyms
import Derived.Test.YtfbnhkndlohalaaLift
import Derived.Maps.OwnSet
import Derived.DeepKeys4
namespace Go.Proofs.Ytfbnhkndlohalaa
open Go.RowKit Go.Maps

theorem keyLaw : Keyed Try.prog 115 := Keyed.of_law (deep_law_laid laidOut (m := 3) (by omega) (of_decide_eq_true (by kernel_rfl)) (by kernel_rfl) (by kernel_rfl))
theorem zeroUnit (w : World) : (zeroValue 116).run Try.prog w = .ok (.agg #[]) w := by kernel_rfl
theorem keyLits_spot (a b : Int) (ha : (Lit.int .u8 a).wf = true) (hb : (Lit.int .i64 b).wf = true) (d : Nat) : Try.prog.keyLits (d + 2) 115 [.int .u8 a, .int .i64 b] = some [.int .u8 a, .int .i64 b] := by
  have hc : Try.prog.cellsOf 115 = 2 := by kernel_rfl
  have hc5 : Try.prog.cellsOf 5 = 1 := by kernel_rfl
  have hc3 : Try.prog.cellsOf 3 = 1 := by kernel_rfl
  simp [Program.keyLits, Try.underlying115, Try.underlying5, Try.underlying3, hc, hc5, hc3, ha, hb]
theorem key_some (a b : Int) (ha : 0 ≤ a ∧ a ≤ 255) (hb : I64 b) : ∃ kl, keyOf Try.prog 115 (.agg #[.int .u8 a, .int .i64 b]) = some kl := by
  have h1 : (Lit.int .u8 a).wf = true := by simp [Lit.wf, IntKind.min, IntKind.max, IntKind.signed, IntKind.bits]; omega
  have h2 : (Lit.int .i64 b).wf = true := by unfold I64 at hb; simp [Lit.wf, IntKind.min, IntKind.max, IntKind.signed, IntKind.bits]; omega
  have hk : Try.prog.keyType 115 = true := by kernel_rfl
  have hf : (Value.agg #[.int .u8 a, .int .i64 b]).formed Try.prog 115 = true := by
    have hc : Try.prog.cellsOf 115 = 2 := by kernel_rfl
    simp [Value.formed, Try.underlying115, hc]
  have hs : ∃ d, Try.prog.types.size + 1 = d + 2 := ⟨Try.prog.types.size - 1, by have : 1 ≤ Try.prog.types.size := of_decide_eq_true (by kernel_rfl); omega⟩
  obtain ⟨d, hd⟩ := hs
  have hl := keyLits_spot a b h1 h2 d
  unfold keyOf
  rw [hd]
  simp only [Try.underlying115, hk, hf, Bool.and_self, if_true]
  refine ⟨.string (keyBytes [.int .u8 a, .int .i64 b]), ?_⟩
  show Option.map _ (Try.prog.keyLits (d + 2) 115 [.int .u8 a, .int .i64 b]) = _
  rw [hl]; rfl

/-- The set D holds just the pairs that are listed. -/
def Seen (D : DataW Unit) (ps : List (Int × Int)) : Prop := IsMap D ∧ ∀ (a b : Int) (kl : Lit), keyOf Try.prog 115 (.agg #[.int .u8 a, .int .i64 b]) = some kl → Maps.has D kl = ps.contains (a, b)
theorem key_inj {a b a' b' : Int} {kl : Lit} (h : keyOf Try.prog 115 (.agg #[.int .u8 a, .int .i64 b]) = some kl) (h' : keyOf Try.prog 115 (.agg #[.int .u8 a', .int .i64 b']) = some kl) : a = a' ∧ b = b' := by
  have := keyLaw.inj h h'
  simpa using this
theorem Seen.put {D : DataW Unit} {ps : List (Int × Int)} (h : Seen D ps) {a b : Int} {kl : Lit} (hk : keyOf Try.prog 115 (.agg #[.int .u8 a, .int .i64 b]) = some kl) (d : DataW Unit) : Seen (D.put kl d) ((a, b) :: ps) := by
  refine ⟨h.1.put _ _, fun a' b' kl' hk' => ?_⟩
  by_cases e : kl' = kl
  · subst e
    obtain ⟨rfl, rfl⟩ := key_inj hk hk'
    rw [has_put_same h.1 (keyLaw.key hk)]
    simp
  · rw [has_put_other e, h.2 a' b' kl' hk']
    have hne : (a', b') ≠ (a, b) := by
      intro e2
      cases e2
      rw [hk] at hk'
      injection hk' with hk'
      exact e hk'.symm
    have : ((a', b') == (a, b)) = false := by simpa using hne
    rw [List.contains_cons, this, Bool.false_or]

/-- May a symbol stand there, behind those that are listed? -/
def symB (C : Circ) (ps : List (Int × Int)) (s : Sym) : Bool := !(ps.contains (s.kind, s.at_)) && (decide (0 ≤ s.at_) && (decide (s.at_ < countF C s.kind) && nameB s.name))
def symAll (C : Circ) : List Sym → Nat → List (Int × Int) → Int × Int
  | [], _, _ => (0, 0)
  | s :: r, i, ps => if symB C ps s = true then symAll C r (i + 1) ((s.kind, s.at_) :: ps) else ((i : Int), 35)
def symR (C : Circ) : Int × Int := symAll C C.symbols 0 []
theorem symAll_step {C : Circ} {xs : List Sym} {k : Nat} {x : Sym} {ps : List (Int × Int)} (h : xs[k]? = some x) (h0 : symB C ps x = true) : symAll C (xs.drop k) k ps = symAll C (xs.drop (k + 1)) (k + 1) ((x.kind, x.at_) :: ps) := by
  rw [drop_one h, symAll, if_pos h0]
theorem symAll_stop {C : Circ} {xs : List Sym} {k : Nat} {x : Sym} {ps : List (Int × Int)} (h : xs[k]? = some x) (h0 : symB C ps x = false) : symAll C (xs.drop k) k ps = ((k : Int), 35) := by
  rw [drop_one h, symAll, if_neg (by rw [h0]; decide)]
theorem symAll_end {C : Circ} {xs : List Sym} {k : Nat} {ps : List (Int × Int)} (h : xs.length ≤ k) : symAll C (xs.drop k) k ps = (0, 0) := by rw [drop_all h]; rfl
theorem ret_sym {k k' : IntKind} {a b : Int} {r : Int × Int} (h : r = (a, b)) : Ending.returned (.tuple #[.int k a, .int k' b]) = .returned (.tuple #[.int k r.1, .int k' r.2]) := by rw [h]
theorem build_spot (a b : Int) (w : World) : (Instr.build 115 #[(0, .int .u8 a), (1, .int .i64 b)]).run Try.prog w = .ok (.agg #[.int .u8 a, .int .i64 b]) w := run_build w _ _ _ (by kernel_rfl)

/-- What holds wherever the tests of a symbol are made. -/
structure SymC (w : World) (gs k : Nat) (D : DataW Unit) (s : Sym) (cs : Array Value) (w' : World) : Prop where
  below : Below w.heap.size w w'
  sym : Blk w' gs 107 #[.int .u8 s.kind, .int .i64 s.at_, .string s.name]
  key : Blk w' (gs + 1) 115 #[.int .u8 s.kind, .int .i64 s.at_]
  box : Blk w' w.heap.size 29 cs
  own : w'.ownsMap Try.prog 115 unitElem (w.heap.size + 1) k D
theorem SymC.alloc {w w' : World} {gs k : Nat} {D : DataW Unit} {s : Sym} {cs : Array Value} (h : SymC w gs k D s cs w') (o : Obj) : SymC w gs k D s cs (w'.alloc o) :=
  ⟨h.below.alloc h.below.size o, h.sym.alloc o, h.key.alloc o, h.box.alloc o, h.own.alloc o⟩
theorem SymC.cells {w w' : World} {gs k : Nat} {D : DataW Unit} {kd at_ m : Int} {nm : ByteArray} {Vi Vl Vo Vb Vc Vj Vf Va Vs Vt : Value} (h : SymC w gs k D ⟨kd, at_, nm⟩ #[.int .i64 m, Vi, Vl, Vo, Vb, Vc, Vj, Vf, Va, Vs, Vt] w') :
    w'.cell? ⟨gs, 0, none⟩ = some (.int .u8 kd) ∧ w'.cell? ⟨gs, 1, none⟩ = some (.int .i64 at_) ∧ w'.cell? ⟨gs, 2, none⟩ = some (.string nm) ∧ w'.cell? ⟨gs + 1, 0, none⟩ = some (.int .u8 kd) ∧ w'.cell? ⟨gs + 1, 1, none⟩ = some (.int .i64 at_) ∧
    w'.cell? ⟨w.heap.size, 0, none⟩ = some (.int .i64 m) ∧ w'.cell? ⟨w.heap.size, 1, none⟩ = some Vi ∧ w'.cell? ⟨w.heap.size, 2, none⟩ = some Vl ∧ w'.cell? ⟨w.heap.size, 3, none⟩ = some Vo ∧ w'.cell? ⟨w.heap.size, 4, none⟩ = some Vb ∧ w'.cell? ⟨w.heap.size, 5, none⟩ = some Vc ∧ w'.cell? ⟨w.heap.size, 6, none⟩ = some Vj ∧ w'.cell? ⟨w.heap.size, 7, none⟩ = some Vf ∧ w'.cell? ⟨w.heap.size, 8, none⟩ = some Va ∧ w'.cell? ⟨w.heap.size, 9, none⟩ = some Vs ∧ w'.cell? ⟨w.heap.size, 10, none⟩ = some Vt :=
  ⟨h.sym.cell 0, h.sym.cell 1, h.sym.cell 2, h.key.cell 0, h.key.cell 1, h.box.cell 0, h.box.cell 1, h.box.cell 2, h.box.cell 3, h.box.cell 4, h.box.cell 5, h.box.cell 6, h.box.cell 7, h.box.cell 8, h.box.cell 9, h.box.cell 10⟩

set_option maxHeartbeats 4000000 in
set_option maxRecDepth 100000 in
theorem checkSymbols_any (w : World) (V : CV) (C : Circ) (h : C.In w V) (ok : C.Ok) (hsz : ∀ s ∈ C.symbols, s.name.size ≤ maxLen) (hn16 : C.symbols.length ≤ 16384) :
    Calls Try.prog 56 #[V.val C.max] w fun e w' => e = .returned (.tuple #[.int .i64 (symR C).1, .int .i64 (symR C).2]) ∧ Below w.heap.size w w' := by
  have hmm := @run_makeMap Try.prog
  have hcount := fun (wx : World) (hb : Below w.heap.size w wx) (k : Int) => countOf_any wx V C k (h.below hb)
  have HCNT := Lib.hid hcount
  obtain ⟨A, c, eS, _, hm, hrun⟩ := h.s
  have HRUN := Lib.hid hrun
  have HOK := Lib.hid ok
  have HSZ := Lib.hid hsz
  obtain ⟨Vi, Vl, Vo, Vb, Vc, Vj, Vf, Va, Vs, Vt⟩ := V
  simp only at eS
  subst eS
  clear hrun h hm ok hsz hcount
  generalize hr : symR C = r
  have HR := Lib.hid hr
  clear hr
  unfold symR at HR
  generalize hn : C.symbols.length = n at *
  have HN := Lib.hid hn
  clear hn
  go_enter Try.func56, Try.ntmps56
  go_wp2
  go_loopw [14] (fun i wr => ∃ (k : Nat) (D : DataW Unit) (ps : List (Int × Int)), k ≤ n ∧ i = .int .i64 k ∧ wr.ownsMap Try.prog 115 unitElem (w.heap.size + 1) k D ∧ Seen D ps ∧ symAll C C.symbols 0 [] = symAll C (C.symbols.drop k) k ps ∧ Below w.heap.size w wr ∧ Blk wr w.heap.size 29 _) (fun i _ => n - (intOf i).toNat)
  case atStart =>
    refine ⟨0, .map [], [], Nat.zero_le _, rfl, ?_, ⟨isMap_empty, fun a b kl _ => rfl⟩, rfl, ?_, ?_⟩
    rotate_left 2
    · exact Blk.alloc (Blk.new _ _ _) _
    · have := World.ownsMap_made (P := Try.prog) (k := 115) (R := unitElem (H := Unit)) (w.alloc (.cells ({ i := Vi, l := Vl, o := Vo, b := Vb, c := Vc, j := Vj, f := Vf, a := Va, s := .slice A n c, t := Vt : CV }.cells C.max) 29))
      simpa using this
    · exact ((Below.refl _ _).alloc (Nat.le_refl _) _).alloc (by simp) _
  case round =>
    obtain ⟨k, D, ps, hk, rfl, hown, hseen, hall, hbw, hbox⟩ := hrel
    have HOWN := Lib.hid hown
    have HALL := Lib.hid hall
    have HBW := Lib.hid hbw
    have HBOX := Lib.hid hbox
    have HSEEN := Lib.hid hseen
    by_cases hlt : k < n
    · have hx := List.getElem?_eq_getElem (l := C.symbols) (i := k) (by rw [HN.out]; exact hlt)
      generalize C.symbols[k]'(by rw [HN.out]; exact hlt) = x at hx
      obtain ⟨b, off, rfl, hb, hcell⟩ := HRUN.out k x hx
      have HX := Lib.hid hx
      have hxo := HOK.out.s x (List.mem_of_getElem? hx)
      have hnm := HSZ.out x (List.mem_of_getElem? hx)
      obtain ⟨kd, at_, nm⟩ := x
      have h0 := (hbw.cell (p := ⟨b, off + (k * 3 + 0), none⟩) hb).trans (hcell 0 _ rfl)
      have h1 := (hbw.cell (p := ⟨b, off + (k * 3 + 1), none⟩) hb).trans (hcell 1 _ rfl)
      have h2 := (hbw.cell (p := ⟨b, off + (k * 3 + 2), none⟩) hb).trans (hcell 2 _ rfl)
      simp only [Nat.add_zero, ← Nat.add_assoc] at h0 h1 h2
      simp only at hxo hnm
      obtain ⟨kl, hkey⟩ := key_some kd at_ ⟨hxo.1, hxo.2.1⟩ hxo.2.2
      have hhas := hseen.2 kd at_ kl hkey
      have HKEY := Lib.hid hkey
      have hbld := build_spot kd at_
      have hbsz := hbw.size
      have hbx := Blk.lt hbox
      have HC3 : Hid (SymC w wr.heap.size k D ⟨kd, at_, nm⟩ #[.int .i64 C.max, Vi, Vl, Vo, Vb, Vc, Vj, Vf, Va, .slice (some ⟨b, off, none⟩) n c, Vt] (((wr.alloc (.cells #[.int .u8 kd, .int .i64 at_, .string nm] 107)).alloc (.cells #[.int .u8 kd, .int .i64 at_] 115)).alloc (.cells #[] 116)).drew) := by
        refine Lib.hid ⟨below_drewN (((hbw.alloc hbsz _).alloc (by simp; omega) _).alloc (by simp; omega) _) 1, ((((Blk.new wr _ _).alloc _).alloc _)).drew, ?_, (((hbox.alloc _).alloc _).alloc _).drew, (((hown.alloc _).alloc _).alloc _).drew⟩
        have := (Blk.new (wr.alloc (.cells #[.int .u8 kd, .int .i64 at_, .string nm] 107)) 115 #[.int .u8 kd, .int .i64 at_]).alloc (.cells #[] 116)
        simpa using this.drew
      clear hx hcell hseen hkey hown hall hbw hbox hxo
      cases hs : ps.contains (kd, at_)
      · rw [hs] at hhas
        have HS := Lib.hid hs
        clear hs
        by_cases h1 : at_ < 0
        · have d1 : decide (at_ < 0) = true := decide_eq_true h1
          have HF := Lib.hid (symAll_stop (C := C) HX.out (show symB C ps ⟨kd, at_, nm⟩ = false by simp only [symB, Bool.and_eq_false_iff]; exact .inr (.inl (decide_eq_false (by omega)))))
          go_wp2_with (first | (at_lookup; refine wpList_lookup_own_unit _ rfl _ _ 113 rfl 115 116 keyLaw Try.underlying113 (zeroUnit _) (w.heap.size + 1) k _ rfl ((HOWN.out.alloc _).alloc _) _ _ rfl HKEY.out ?_))
          refine wp_region_quiet (C := SymC w wr.heap.size k D ⟨kd, at_, nm⟩ #[.int .i64 C.max, Vi, Vl, Vo, Vb, Vc, Vj, Vf, Va, .slice (some ⟨b, off, none⟩) n c, Vt]) (by kernel_rfl) (by kernel_rfl) HC3.out ?_
          simp only
          repeat
            first
              | go_big_quiet_skip
              | (refine wpQuiet_step (fun K hK => ?_)
                 rw [if_pos (by rfl)]
                 unfold Oper.quiet
                 apply Exists.intro
                 refine And.intro (fun wx hWx => ?_) (hK _ ?_)
                 · first
                     | (go_simp; exact rfl)
                     | (obtain ⟨q0, q1, q2, _⟩ := hWx.cells; go_simp; exact rfl)
                     | (obtain ⟨_, _, _, _, _, c0, c1, c2, c3, c4, c5, c6, c7, c8, c9, c10⟩ := hWx.cells; go_simp; exact rfl)
                     | (go_simp; first | fail)
                 clear hK K
                 try simp only [Act.put, List.setIfInBounds_toArray, List.set_cons_zero, List.set_cons_succ])
          refine wpQuiet_nil ?_
          intro w5 hW5
          have HW5 := Lib.hid hW5
          clear hW5
          go_wp2
          go_ret2
          exact ⟨ret_sym (HR.out.symm.trans (HALL.out.trans HF.out)), HW5.out.below⟩
        · obtain ⟨cnt, hcnt⟩ : ∃ x, countF C kd = x := ⟨_, rfl⟩
          have HC := Lib.hid hcnt
          have d1 : decide (at_ < 0) = false := decide_eq_false h1
          clear hcnt
          by_cases h2 : at_ < cnt
          · have d2 : decide (cnt ≤ at_) = false := decide_eq_false (by omega)
            cases h3 : nameB nm
            · have HN3 := Lib.hid h3
              clear h3
              have HF := Lib.hid (symAll_stop (C := C) HX.out (show symB C ps ⟨kd, at_, nm⟩ = false by rw [show symB C ps ⟨kd, at_, nm⟩ = (_ && (_ && (_ && nameB nm))) from rfl, HN3.out]; simp))
              go_wp2_with (first | (at_lookup; refine wpList_lookup_own_unit _ rfl _ _ 113 rfl 115 116 keyLaw Try.underlying113 (zeroUnit _) (w.heap.size + 1) k _ rfl ((HOWN.out.alloc _).alloc _) _ _ rfl HKEY.out ?_))
              refine wp_region_quiet (C := SymC w wr.heap.size k D ⟨kd, at_, nm⟩ #[.int .i64 C.max, Vi, Vl, Vo, Vb, Vc, Vj, Vf, Va, .slice (some ⟨b, off, none⟩) n c, Vt]) (by kernel_rfl) (by kernel_rfl) HC3.out ?_
              simp only
              repeat
                first
                  | go_big_quiet_skip
                  | (refine wpQuiet_step (fun K hK => ?_)
                     rw [if_pos (by rfl)]
                     unfold Oper.quiet
                     apply Exists.intro
                     refine And.intro (fun wx hWx => ?_) (hK _ ?_)
                     · first
                         | (go_simp; exact rfl)
                         | (obtain ⟨q0, q1, q2, _⟩ := hWx.cells; go_simp; exact rfl)
                         | (obtain ⟨_, _, _, _, _, c0, c1, c2, c3, c4, c5, c6, c7, c8, c9, c10⟩ := hWx.cells; go_simp; exact rfl)
                         | (go_simp; first | (go_at_call 73; (refine (HCNT.out _ hWx.below kd).mono ?_; rw [HC.out]; rintro e w' ⟨rfl, rfl⟩; exact ⟨rfl, hWx.alloc _⟩)) | (go_at_call 74; (refine (isName_any _ nm hnm).mono ?_; rw [HN3.out]; rintro e w' ⟨rfl, rfl⟩; exact ⟨rfl, hWx⟩)))
                     clear hK K
                     try simp only [Act.put, List.setIfInBounds_toArray, List.set_cons_zero, List.set_cons_succ])
              refine wpQuiet_nil ?_
              intro w5 hW5
              have HW5 := Lib.hid hW5
              clear hW5
              go_wp2
              go_ret2
              exact ⟨ret_sym (HR.out.symm.trans (HALL.out.trans HF.out)), HW5.out.below⟩
            · have HN3 := Lib.hid h3
              clear h3
              have HF := Lib.hid (symAll_step (C := C) HX.out (show symB C ps ⟨kd, at_, nm⟩ = true by simp only [symB, HS.out, HN3.out, HC.out]; simp; omega))
              go_wp2_with (first | (at_lookup; refine wpList_lookup_own_unit _ rfl _ _ 113 rfl 115 116 keyLaw Try.underlying113 (zeroUnit _) (w.heap.size + 1) k _ rfl ((HOWN.out.alloc _).alloc _) _ _ rfl HKEY.out ?_))
              refine wp_region_quiet (C := SymC w wr.heap.size k D ⟨kd, at_, nm⟩ #[.int .i64 C.max, Vi, Vl, Vo, Vb, Vc, Vj, Vf, Va, .slice (some ⟨b, off, none⟩) n c, Vt]) (by kernel_rfl) (by kernel_rfl) HC3.out ?_
              simp only
              repeat
                first
                  | go_big_quiet_skip
                  | (refine wpQuiet_step (fun K hK => ?_)
                     rw [if_pos (by rfl)]
                     unfold Oper.quiet
                     apply Exists.intro
                     refine And.intro (fun wx hWx => ?_) (hK _ ?_)
                     · first
                         | (go_simp; exact rfl)
                         | (obtain ⟨q0, q1, q2, _⟩ := hWx.cells; go_simp; exact rfl)
                         | (obtain ⟨_, _, _, _, _, c0, c1, c2, c3, c4, c5, c6, c7, c8, c9, c10⟩ := hWx.cells; go_simp; exact rfl)
                         | (go_simp; first | (go_at_call 73; (refine (HCNT.out _ hWx.below kd).mono ?_; rw [HC.out]; rintro e w' ⟨rfl, rfl⟩; exact ⟨rfl, hWx.alloc _⟩)) | (go_at_call 74; (refine (isName_any _ nm hnm).mono ?_; rw [HN3.out]; rintro e w' ⟨rfl, rfl⟩; exact ⟨rfl, hWx⟩)))
                     clear hK K
                     try simp only [Act.put, List.setIfInBounds_toArray, List.set_cons_zero, List.set_cons_succ])
              refine wpQuiet_nil ?_
              intro w5 hW5
              have HW5 := Lib.hid hW5
              clear hW5
              obtain ⟨q0, q1, q2, q3, q4, _⟩ := HW5.out.cells
              have hbsz5 := HW5.out.below.size
              go_wp2_with (first | (at_mapUpdate; refine wpList_mapUpdate_own _ rfl _ _ _ 113 rfl 115 116 keyLaw Try.underlying113 (unitElem (H := Unit)) (w.heap.size + 1) k _ rfl HW5.out.own (by unfold maxLen; omega) _ _ _ rfl rfl HKEY.out _ [] unitElem_mk ?_; intro w4 hown4 hgrow4))
              have hb4 := HW5.out.below.grown hgrow4 hbsz5 (fun j hj => by cases hj; omega)
              have hx4 := HW5.out.box.grown hgrow4 (by simp)
              have HS4 := Lib.hid (HSEEN.out.put HKEY.out (.agg []))
              have HF4 := Lib.hid (HALL.out.trans HF.out)
              go_roundw
              case rel => first
                | exact ⟨k + 1, _, _, by omega, by go_num, hown4, HS4.out, HF4.out, hb4, hx4⟩
                | ((repeat apply Exists.intro); exact ⟨⟨k + 1, _, _, by omega, by go_num, hown4, HS4.out, HF4.out, hb4, hx4⟩, rfl⟩)
              case measure => first | (simp [intOf]; omega) | omega
          · have d2 : decide (cnt ≤ at_) = true := decide_eq_true (by omega)
            have HF := Lib.hid (symAll_stop (C := C) HX.out (show symB C ps ⟨kd, at_, nm⟩ = false by simp only [symB, Bool.and_eq_false_iff]; exact .inr (.inr (.inl (decide_eq_false (by rw [HC.out]; omega))))))
            clear h2
            go_wp2_with (first | (at_lookup; refine wpList_lookup_own_unit _ rfl _ _ 113 rfl 115 116 keyLaw Try.underlying113 (zeroUnit _) (w.heap.size + 1) k _ rfl ((HOWN.out.alloc _).alloc _) _ _ rfl HKEY.out ?_))
            refine wp_region_quiet (C := SymC w wr.heap.size k D ⟨kd, at_, nm⟩ #[.int .i64 C.max, Vi, Vl, Vo, Vb, Vc, Vj, Vf, Va, .slice (some ⟨b, off, none⟩) n c, Vt]) (by kernel_rfl) (by kernel_rfl) HC3.out ?_
            simp only
            repeat
              first
                | go_big_quiet_skip
                | (refine wpQuiet_step (fun K hK => ?_)
                   rw [if_pos (by rfl)]
                   unfold Oper.quiet
                   apply Exists.intro
                   refine And.intro (fun wx hWx => ?_) (hK _ ?_)
                   · first
                       | (go_simp; exact rfl)
                       | (obtain ⟨q0, q1, q2, _⟩ := hWx.cells; go_simp; exact rfl)
                       | (obtain ⟨_, _, _, _, _, c0, c1, c2, c3, c4, c5, c6, c7, c8, c9, c10⟩ := hWx.cells; go_simp; exact rfl)
                       | (go_simp; first | (refine (HCNT.out _ hWx.below kd).mono ?_; rw [HC.out]; rintro e w' ⟨rfl, rfl⟩; exact ⟨rfl, hWx.alloc _⟩))
                   clear hK K
                   try simp only [Act.put, List.setIfInBounds_toArray, List.set_cons_zero, List.set_cons_succ])
            refine wpQuiet_nil ?_
            intro w5 hW5
            have HW5 := Lib.hid hW5
            clear hW5
            go_wp2
            go_ret2
            exact ⟨ret_sym (HR.out.symm.trans (HALL.out.trans HF.out)), HW5.out.below⟩
      · rw [hs] at hhas
        have HF := Lib.hid (symAll_stop (C := C) HX.out (show symB C ps ⟨kd, at_, nm⟩ = false by simp only [symB, hs]; rfl))
        clear hs
        go_wp2_with (first | (at_lookup; refine wpList_lookup_own_unit _ rfl _ _ 113 rfl 115 116 keyLaw Try.underlying113 (zeroUnit _) (w.heap.size + 1) k _ rfl ((HOWN.out.alloc _).alloc _) _ _ rfl HKEY.out ?_))
        refine wp_region_quiet (C := SymC w wr.heap.size k D ⟨kd, at_, nm⟩ #[.int .i64 C.max, Vi, Vl, Vo, Vb, Vc, Vj, Vf, Va, .slice (some ⟨b, off, none⟩) n c, Vt]) (by kernel_rfl) (by kernel_rfl) HC3.out ?_
        simp only
        repeat
          first
            | go_big_quiet_skip
            | (refine wpQuiet_step (fun K hK => ?_)
               rw [if_pos (by rfl)]
               unfold Oper.quiet
               apply Exists.intro
               refine And.intro (fun wx hWx => ?_) (hK _ ?_)
               · first
                   | (go_simp; exact rfl)
                   | (obtain ⟨q0, q1, q2, _⟩ := hWx.cells; go_simp; exact rfl)
                   | (obtain ⟨_, _, _, _, _, c0, c1, c2, c3, c4, c5, c6, c7, c8, c9, c10⟩ := hWx.cells; go_simp; exact rfl)
                   | (go_simp; first | fail)
               clear hK K
               try simp only [Act.put, List.setIfInBounds_toArray, List.set_cons_zero, List.set_cons_succ])
        refine wpQuiet_nil ?_
        intro w5 hW5
        have HW5 := Lib.hid hW5
        clear hW5
        go_wp2
        go_ret2
        exact ⟨ret_sym (HR.out.symm.trans (HALL.out.trans HF.out)), HW5.out.below⟩
    · have : k = n := by omega
      subst this
      clear hown hall hbw hbox hseen
      go_wp2
      go_ret2
      exact ⟨ret_sym (HR.out.symm.trans (HALL.out.trans (symAll_end (by rw [HN.out]; exact Nat.le_refl _)))), HBW.out⟩
end Go.Proofs.Ytfbnhkndlohalaa

/- Hash: the contract of the program's gate. -/
import Derived.Test.YtilbgopdciiadaaHshA
import Derived.Test.YtilbgopdciiadaaAppF
namespace Go.Proofs.Ytilbgopdciiadaa
open Go.RowKit Go.Maps

theorem step_mapUpdate {H : Type} {P : Program} {ops : Array Oper} {o : Oper} {a : Act} {w : World} {K : Act → World → Prop} {Q : Exit → Act → World → Prop} {E : Prop} (hgd : o.guard = none) (m x v : Operand) (t : TypeId) (hop : o.op = Op.mapUpdate t m x v)
    (k e : TypeId) (Kd : Keyed P k) (ht : P.underlying t = some (.map k e)) (R : Value → Option (DataW H × List MemPlace)) (b n : Nat) (D : DataW H)
    (hm : a.eval m = .map (some b)) (hown : w.ownsMap P k R b n D) (hn : n < maxLen) (key val : Value) (kl : Lit) (hx : a.eval x = key) (hv : a.eval v = val) (hkey : keyOf P k key = some kl)
    (d : DataW H) (ps : List MemPlace) (hval : R val = some (d, ps))
    (h : ∀ w', w'.ownsMap P k R b (n + 1) (D.put kl d) → w.grownBy w' (some b) → K (a.put o.dst undef) w') :
    if Region.wanted o (yielded ops a.tmps) = true then Oper.wp P o a w K Q else E := by
  have hw : Region.wanted o (yielded ops a.tmps) = true := by simp [Region.wanted, hgd]
  rw [if_pos hw]
  obtain ⟨w', hrun, r1, r2⟩ := hown.update Kd ht hn hkey hval
  unfold Oper.wp
  simp [execOp, hop, hm, hx, hv, hrun, Result.andThen]
  exact h w' r1 r2
set_option maxRecDepth 100000 in
/-- What looking a pair up answers. -/
theorem look_run {w : World} {bx m : Nat} {gv : Value} {b : Bd} {D : DataW Unit} (h : HBm w bx m gv b D) {x y : Int} {kl : Lit} (hk : keyOf Try.prog 149 (.agg #[.int .i64 x, .int .i64 y]) = some kl) :
    ∃ c : Int, (∀ k, findP (x, y) b.g 0 = some k → c = b.out k) ∧ ∀ w', w'.heap[m]? = w.heap[m]? → (Instr.lookup 134 (.map (some m)) (.agg #[.int .i64 x, .int .i64 y]) true).run Try.prog w' = .ok (.tuple #[.int .i64 c, .bool (findP (x, y) b.g 0).isSome]) w' := by
  obtain ⟨e1, e2⟩ := h.dat.h x y kl hk
  have key : ∀ w', w'.heap[m]? = w.heap[m]? → ∃ v ps, (Instr.lookup 134 (.map (some m)) (.agg #[.int .i64 x, .int .i64 y]) true).run Try.prog w' = .ok (.tuple #[v, .bool (Maps.has D kl)]) w' ∧ plainElem (H := Unit) Try.prog 3 v = some (D.atKey kl (.lit (.int .i64 0)), ps) := fun w' hw =>
    (map_kept h.map hw).look_ok keyPair Try.underlying134 (zeroInt w') (plainElem_int Try.underlying3 (by decide)) hk
  obtain ⟨v, ps, _, hv⟩ := key w rfl
  obtain ⟨c, rfl, hc, _⟩ := plainElem_int_inv Try.underlying3 hv
  have hc1 := congrArg Prod.fst hc
  simp only at hc1
  refine ⟨c, fun k hk2 => ?_, fun w' hw => ?_⟩
  · have := e2 k hk2
    rw [hc1] at this
    injection this with this
    injection this
  · obtain ⟨v', ps', h1, h2⟩ := key w' hw
    obtain ⟨c', rfl, hc', _⟩ := plainElem_int_inv Try.underlying3 h2
    have hc2 := congrArg Prod.fst hc'
    simp only at hc2
    rw [hc1] at hc2
    injection hc2 with hc2
    injection hc2 with _ hc2
    subst hc2
    rw [← e1]
    exact h1

theorem tris_snoc (b : Bd) (p : Int × Int) : Bd.tris { b with g := b.g ++ [p] } = b.tris ++ [(b.out b.g.length, p)] := by
  unfold Bd.tris
  simp only [List.length_append, List.length_singleton, List.range_succ, List.map_append, List.map_cons, List.map_nil]
  congr 1
  · apply List.map_congr_left
    intro k hk
    have := List.mem_range.1 hk
    simp [Bd.out, List.getD_eq_getElem?_getD, List.getElem?_append_left this]
  · simp [Bd.out, List.getD_eq_getElem?_getD]
theorem reads_triple (w : World) (a b c : Value) (t : TypeId) : Reads (w.alloc (.cells #[a, b, c] t)) (w.heap.size + 1) 3 (some ⟨w.heap.size, 0, none⟩) 1 [a, b, c] := by
  refine ⟨rfl, fun _ => ⟨_, rfl, by simp, fun j u hu => ?_⟩⟩
  rw [add_none, Nat.zero_add, cell_of_row _ _ _ #[a, b, c] t (0, 0) (heap_alloc_new w _)]
  simpa using hu
set_option maxHeartbeats 4000000 in
set_option maxRecDepth 100000 in
theorem gate_any (w : World) (bx : Nat) (b : Bd) (F : Nat → Prop) (x y : Int) (h : HB w bx b F) (h1 : 2 ≤ y) (h2 : y < x) (h3 : x / 2 ≠ y / 2) (hx : b.has x = true) :
    Calls Try.prog 99 #[.pointer (some ⟨bx, 0, none⟩), .agg #[.int .i64 x, .int .i64 y]] w fun e w' => e = .returned (.tuple #[.int .i64 (b.gate x y).1.1, .int .i64 (b.gate x y).1.2]) ∧ Did w w' bx F (b.gate x y).2 := by
  have HLAST := Lib.hid (fun (wx : World) (hb : Below w.heap.size w wx) => last_any wx bx b F (h.below hb))
  have HH := Lib.hid h
  have HXH := Lib.hid hx
  obtain ⟨m, gv, D, hm, rfl⟩ := h
  have hlast := hm.ok.last
  have hgl : b.g.length ≤ b.last := by unfold Bd.last; omega
  have hxb := has_iff.1 hx
  obtain ⟨kl, hkey⟩ := keyP_some x y (by unfold I64; omega) (by unfold I64; omega)
  obtain ⟨c, hc, hlook⟩ := look_run hm hkey
  obtain ⟨A, cp, e⟩ := own_slice_k hm.row
  subst e
  obtain ⟨n, hn⟩ : ∃ n, b.g.length = n := ⟨_, rfl⟩
  obtain ⟨la, hla⟩ : ∃ la, b.last = la := ⟨_, rfl⟩
  have HM := Lib.hid hm
  have HKEY := Lib.hid hkey
  have HN := Lib.hid hn
  have HLA := Lib.hid hla
  rw [hla] at HLAST hlast hgl hxb
  rw [hn] at hgl
  have HB1 : Hid (Below w.heap.size w (w.alloc (.cells #[.int .i64 x, .int .i64 y] 149))) := Lib.hid ((Below.refl _ _).alloc (Nat.le_refl _) _)
  obtain ⟨W1, hW1⟩ : ∃ W1, w.alloc (.cells #[.int .i64 x, .int .i64 y] 149) = W1 := ⟨_, rfl⟩
  have hkx : Blk W1 w.heap.size 149 #[.int .i64 x, .int .i64 y] := by rw [← hW1]; exact Blk.new w _ _
  rw [hW1] at HB1
  have HKX := Lib.hid hkx
  have HW1 := Lib.hid hW1
  have hS : ∀ wz, Below W1.heap.size W1 wz → wz.cell? ⟨bx, 3, none⟩ = some (.map (some m)) ∧ wz.cell? ⟨w.heap.size, 0, none⟩ = some (.int .i64 x) ∧ wz.cell? ⟨w.heap.size, 1, none⟩ = some (.int .i64 y) ∧ wz.heap[m]? = w.heap[m]? := fun wz hb => by
    have hb2 := bt HB1.out (Nat.le_refl _) hb
    have k1 := hm.box.below hb2 hm.box.lt
    have k2 := HKX.out.below hb HKX.out.lt
    exact ⟨k1.cell 3, k2.cell 0, k2.cell 1, hb2.block m hm.map.lt⟩
  have HS := Lib.hid hS
  have HLOOK := Lib.hid (fun (w' : World) (h9 : w'.heap[m]? = w.heap[m]?) => hlook w' h9)
  have HBX : Hid (∀ wz, Below W1.heap.size W1 wz → wz.cell? ⟨bx, 2, none⟩ = some (.slice A n cp)) := Lib.hid (fun wz hb => by
    have hb2 := bt HB1.out (Nat.le_refl _) hb
    have k1 := (hm.box.below hb2 hm.box.lt).cell 2
    rw [HN.out] at k1
    exact k1)
  cases hf : findP (x, y) b.g 0 with
  | some k =>
    have hc2 := hc k hf
    have HR : Hid (b.gate x y = ((b.out k, 0), b)) := Lib.hid (by unfold Bd.gate; rw [hf])
    rw [HR.out]
    simp only
    rw [← hc2]
    rw [hf] at HLOOK
    simp only [Option.isSome_some] at HLOOK
    clear hf hc hc2 hlook hm hkey hx hn hla hkx hW1 hS hxb
    go_enter Try.func99, Try.ntmps99
    go_upto_region 1 with (fail)
    rw [HW1.out]
    refine wp_region_T (by kernel_rfl) (fun w' => w'.cell? ⟨bx, 3, none⟩ = some (.map (some m)) ∧ w'.cell? ⟨w.heap.size, 0, none⟩ = some (.int .i64 x) ∧ w'.cell? ⟨w.heap.size, 1, none⟩ = some (.int .i64 y) ∧ w'.heap[m]? = w.heap[m]?) 11 ?_
    have hHeld := HS.out _ (Below.refl W1.heap.size W1).drew
    refine wpAnyT_take (i := 0) (oi := { dst := some 10, op := Op.move (Operand.tmp 0), type := 83, pos := "hash.go:112", after := #[], guard := none }) (v := ?v0r1q1) rfl (by kernel_rfl) (fun _ _ _ h => h) (by rfl) hHeld ?h0r1q1 ?_
    case h0r1q1 => (intro w' hSw; (try dsimp only at hSw); go_simp; try with_reducible rfl)
    (try simp only [Act.put, List.setIfInBounds_toArray, List.set_cons_zero, List.set_cons_succ])
    refine wpAnyT_take (i := 1) (oi := { dst := some 11, op := Op.nilCheck (Operand.tmp 10), type := 0, pos := "hash.go:112", after := #[{ on := 0, ground := Ground.data }], guard := none }) (v := ?v1r1q1) rfl (by kernel_rfl) (fun _ _ _ h => h) (by rfl) hHeld ?h1r1q1 ?_
    case h1r1q1 => (intro w' hSw; (try dsimp only at hSw); go_simp; try with_reducible rfl)
    (try simp only [Act.put, List.setIfInBounds_toArray, List.set_cons_zero, List.set_cons_succ])
    refine wpAnyT_take (i := 2) (oi := { dst := some 12, op := Op.fieldAddr 136 (Operand.tmp 11) 3, type := 0, pos := "hash.go:112", after := #[{ on := 1, ground := Ground.data }], guard := none }) (v := ?v2r1q1) rfl (by kernel_rfl) (fun _ _ _ h => h) (by rfl) hHeld ?h2r1q1 ?_
    case h2r1q1 => (intro w' hSw; (try dsimp only at hSw); go_simp; try with_reducible rfl)
    (try simp only [Act.put, List.setIfInBounds_toArray, List.set_cons_zero, List.set_cons_succ])
    refine wpAnyT_take (i := 3) (oi := { dst := some 13, op := Op.load 134 (Operand.tmp 12), type := 134, pos := "hash.go:112", after := #[{ on := 2, ground := Ground.data }], guard := none }) (v := ?v3r1q1) rfl (by kernel_rfl) (fun _ _ _ h => h) (by rfl) hHeld ?h3r1q1 ?_
    case h3r1q1 => (intro w' hSw; (try dsimp only at hSw); go_simp; try with_reducible rfl)
    (try simp only [Act.put, List.setIfInBounds_toArray, List.set_cons_zero, List.set_cons_succ])
    refine wpAnyT_take (i := 4) (oi := { dst := some 14, op := Op.load 149 (Operand.tmp 3), type := 149, pos := "hash.go:112", after := #[], guard := none }) (v := ?v4r1q1) rfl (by kernel_rfl) (fun _ _ _ h => h) (by rfl) hHeld ?h4r1q1 ?_
    case h4r1q1 => (intro w' hSw; (try dsimp only at hSw); go_simp; try with_reducible rfl)
    (try simp only [Act.put, List.setIfInBounds_toArray, List.set_cons_zero, List.set_cons_succ])
    refine wpAnyT_take (i := 5) (oi := { dst := some 15, op := Op.lookup 134 (Operand.tmp 13) (Operand.tmp 14) true, type := 191, pos := "hash.go:112", after := #[{ on := 3, ground := Ground.data }, { on := 4, ground := Ground.data }], guard := none }) (v := ?v5r1q1) rfl (by kernel_rfl) (fun _ _ _ h => h) (by rfl) hHeld ?h5r1q1 ?_
    case h5r1q1 => (intro w' hSw; (try dsimp only at hSw); have hL := HLOOK.out w' hSw.2.2.2; go_simp; try with_reducible rfl)
    (try simp only [Act.put, List.setIfInBounds_toArray, List.set_cons_zero, List.set_cons_succ])
    refine wpAnyT_take (i := 6) (oi := { dst := some 9, op := Op.move (Operand.tmp 15), type := 191, pos := "hash.go:112", after := #[{ on := 5, ground := Ground.data }], guard := none }) (v := ?v6r1q1) rfl (by kernel_rfl) (fun _ _ _ h => h) (by rfl) hHeld ?h6r1q1 ?_
    case h6r1q1 => (intro w' hSw; (try dsimp only at hSw); go_simp; try with_reducible rfl)
    (try simp only [Act.put, List.setIfInBounds_toArray, List.set_cons_zero, List.set_cons_succ])
    refine wpAnyT_take (i := 7) (oi := { dst := some 16, op := Op.extract (Operand.tmp 9) 0, type := 3, pos := "hash.go:112", after := #[{ on := 6, ground := Ground.data }], guard := none }) (v := ?v7r1q1) rfl (by kernel_rfl) (fun _ _ _ h => h) (by rfl) hHeld ?h7r1q1 ?_
    case h7r1q1 => (intro w' hSw; (try dsimp only at hSw); go_simp; try with_reducible rfl)
    (try simp only [Act.put, List.setIfInBounds_toArray, List.set_cons_zero, List.set_cons_succ])
    refine wpAnyT_take (i := 8) (oi := { dst := some 17, op := Op.extract (Operand.tmp 9) 1, type := 4, pos := "hash.go:112", after := #[{ on := 6, ground := Ground.data }, { on := 9, ground := Ground.gcOnly Departure.lateStores }], guard := none }) (v := ?v8r1q1) rfl (by kernel_rfl) (fun _ _ _ h => h) (by rfl) hHeld ?h8r1q1 ?_
    case h8r1q1 => (intro w' hSw; (try dsimp only at hSw); go_simp; try with_reducible rfl)
    (try simp only [Act.put, List.setIfInBounds_toArray, List.set_cons_zero, List.set_cons_succ])
    refine wpAnyT_take (i := 9) (oi := { dst := some 6, op := Op.assign (Operand.tmp 16), type := 3, pos := "hash.go:112", after := #[{ on := 7, ground := Ground.data }, { on := 0, ground := Ground.phase }, { on := 1, ground := Ground.phase }, { on := 2, ground := Ground.phase }, { on := 3, ground := Ground.phase }, { on := 4, ground := Ground.phase }, { on := 5, ground := Ground.phase }, { on := 6, ground := Ground.phase }, { on := 7, ground := Ground.phase }, { on := 8, ground := Ground.textOnly Departure.lateStores }], guard := none }) (v := ?v9r1q1) rfl (by kernel_rfl) (fun _ _ _ h => h) (by rfl) hHeld ?h9r1q1 ?_
    case h9r1q1 => (intro w' hSw; (try dsimp only at hSw); go_simp; try with_reducible rfl)
    (try simp only [Act.put, List.setIfInBounds_toArray, List.set_cons_zero, List.set_cons_succ])
    refine wpAnyT_take (i := 10) (oi := { dst := some 7, op := Op.assign (Operand.tmp 17), type := 4, pos := "hash.go:112", after := #[{ on := 8, ground := Ground.data }, { on := 9, ground := Ground.chain }, { on := 0, ground := Ground.phase }, { on := 1, ground := Ground.phase }, { on := 2, ground := Ground.phase }, { on := 3, ground := Ground.phase }, { on := 4, ground := Ground.phase }, { on := 5, ground := Ground.phase }, { on := 6, ground := Ground.phase }, { on := 7, ground := Ground.phase }, { on := 8, ground := Ground.phase }, { on := 9, ground := Ground.phase }], guard := none }) (v := ?v10r1q1) rfl (by kernel_rfl) (fun _ _ _ h => h) (by rfl) hHeld ?h10r1q1 ?_
    case h10r1q1 => (intro w' hSw; (try dsimp only at hSw); go_simp; try with_reducible rfl)
    (try simp only [Act.put, List.setIfInBounds_toArray, List.set_cons_zero, List.set_cons_succ])
    clear hHeld
    refine wpAnyT_done (by kernel_rfl) ?_
    go_wp2
    go_ret2
    exact ⟨rfl, Did.of_below HH.out (bt HB1.out (Nat.le_refl _) (Below.refl _ _).drew)⟩
  | none =>
    rw [hf] at HLOOK
    simp only [Option.isSome_none] at HLOOK
    by_cases hfull : 16384 ≤ la
    · have HR : Hid (b.gate x y = ((0, 2), b)) := Lib.hid (by unfold Bd.gate; rw [hf]; simp only; rw [if_pos (.inl (by rw [HLA.out]; exact hfull))])
      rw [HR.out]
      simp only
      have hlai : (16384 : Int) ≤ (la : Int) := by omega
      clear hf hc hlook hm hkey hx hn hla hkx hW1 hS hxb hfull
      go_enter Try.func99, Try.ntmps99
      go_upto_region 1 with (fail)
      rw [HW1.out]
      refine wp_region_T (by kernel_rfl) (fun w' => w'.cell? ⟨bx, 3, none⟩ = some (.map (some m)) ∧ w'.cell? ⟨w.heap.size, 0, none⟩ = some (.int .i64 x) ∧ w'.cell? ⟨w.heap.size, 1, none⟩ = some (.int .i64 y) ∧ w'.heap[m]? = w.heap[m]?) 11 ?_
      have hHeld := HS.out _ (Below.refl W1.heap.size W1).drew
      refine wpAnyT_take (i := 0) (oi := { dst := some 10, op := Op.move (Operand.tmp 0), type := 83, pos := "hash.go:112", after := #[], guard := none }) (v := ?v0r1q2) rfl (by kernel_rfl) (fun _ _ _ h => h) (by rfl) hHeld ?h0r1q2 ?_
      case h0r1q2 => (intro w' hSw; (try dsimp only at hSw); go_simp; try with_reducible rfl)
      (try simp only [Act.put, List.setIfInBounds_toArray, List.set_cons_zero, List.set_cons_succ])
      refine wpAnyT_take (i := 1) (oi := { dst := some 11, op := Op.nilCheck (Operand.tmp 10), type := 0, pos := "hash.go:112", after := #[{ on := 0, ground := Ground.data }], guard := none }) (v := ?v1r1q2) rfl (by kernel_rfl) (fun _ _ _ h => h) (by rfl) hHeld ?h1r1q2 ?_
      case h1r1q2 => (intro w' hSw; (try dsimp only at hSw); go_simp; try with_reducible rfl)
      (try simp only [Act.put, List.setIfInBounds_toArray, List.set_cons_zero, List.set_cons_succ])
      refine wpAnyT_take (i := 2) (oi := { dst := some 12, op := Op.fieldAddr 136 (Operand.tmp 11) 3, type := 0, pos := "hash.go:112", after := #[{ on := 1, ground := Ground.data }], guard := none }) (v := ?v2r1q2) rfl (by kernel_rfl) (fun _ _ _ h => h) (by rfl) hHeld ?h2r1q2 ?_
      case h2r1q2 => (intro w' hSw; (try dsimp only at hSw); go_simp; try with_reducible rfl)
      (try simp only [Act.put, List.setIfInBounds_toArray, List.set_cons_zero, List.set_cons_succ])
      refine wpAnyT_take (i := 3) (oi := { dst := some 13, op := Op.load 134 (Operand.tmp 12), type := 134, pos := "hash.go:112", after := #[{ on := 2, ground := Ground.data }], guard := none }) (v := ?v3r1q2) rfl (by kernel_rfl) (fun _ _ _ h => h) (by rfl) hHeld ?h3r1q2 ?_
      case h3r1q2 => (intro w' hSw; (try dsimp only at hSw); go_simp; try with_reducible rfl)
      (try simp only [Act.put, List.setIfInBounds_toArray, List.set_cons_zero, List.set_cons_succ])
      refine wpAnyT_take (i := 4) (oi := { dst := some 14, op := Op.load 149 (Operand.tmp 3), type := 149, pos := "hash.go:112", after := #[], guard := none }) (v := ?v4r1q2) rfl (by kernel_rfl) (fun _ _ _ h => h) (by rfl) hHeld ?h4r1q2 ?_
      case h4r1q2 => (intro w' hSw; (try dsimp only at hSw); go_simp; try with_reducible rfl)
      (try simp only [Act.put, List.setIfInBounds_toArray, List.set_cons_zero, List.set_cons_succ])
      refine wpAnyT_take (i := 5) (oi := { dst := some 15, op := Op.lookup 134 (Operand.tmp 13) (Operand.tmp 14) true, type := 191, pos := "hash.go:112", after := #[{ on := 3, ground := Ground.data }, { on := 4, ground := Ground.data }], guard := none }) (v := ?v5r1q2) rfl (by kernel_rfl) (fun _ _ _ h => h) (by rfl) hHeld ?h5r1q2 ?_
      case h5r1q2 => (intro w' hSw; (try dsimp only at hSw); have hL := HLOOK.out w' hSw.2.2.2; go_simp; try with_reducible rfl)
      (try simp only [Act.put, List.setIfInBounds_toArray, List.set_cons_zero, List.set_cons_succ])
      refine wpAnyT_take (i := 6) (oi := { dst := some 9, op := Op.move (Operand.tmp 15), type := 191, pos := "hash.go:112", after := #[{ on := 5, ground := Ground.data }], guard := none }) (v := ?v6r1q2) rfl (by kernel_rfl) (fun _ _ _ h => h) (by rfl) hHeld ?h6r1q2 ?_
      case h6r1q2 => (intro w' hSw; (try dsimp only at hSw); go_simp; try with_reducible rfl)
      (try simp only [Act.put, List.setIfInBounds_toArray, List.set_cons_zero, List.set_cons_succ])
      refine wpAnyT_take (i := 7) (oi := { dst := some 16, op := Op.extract (Operand.tmp 9) 0, type := 3, pos := "hash.go:112", after := #[{ on := 6, ground := Ground.data }], guard := none }) (v := ?v7r1q2) rfl (by kernel_rfl) (fun _ _ _ h => h) (by rfl) hHeld ?h7r1q2 ?_
      case h7r1q2 => (intro w' hSw; (try dsimp only at hSw); go_simp; try with_reducible rfl)
      (try simp only [Act.put, List.setIfInBounds_toArray, List.set_cons_zero, List.set_cons_succ])
      refine wpAnyT_take (i := 8) (oi := { dst := some 17, op := Op.extract (Operand.tmp 9) 1, type := 4, pos := "hash.go:112", after := #[{ on := 6, ground := Ground.data }, { on := 9, ground := Ground.gcOnly Departure.lateStores }], guard := none }) (v := ?v8r1q2) rfl (by kernel_rfl) (fun _ _ _ h => h) (by rfl) hHeld ?h8r1q2 ?_
      case h8r1q2 => (intro w' hSw; (try dsimp only at hSw); go_simp; try with_reducible rfl)
      (try simp only [Act.put, List.setIfInBounds_toArray, List.set_cons_zero, List.set_cons_succ])
      refine wpAnyT_take (i := 9) (oi := { dst := some 6, op := Op.assign (Operand.tmp 16), type := 3, pos := "hash.go:112", after := #[{ on := 7, ground := Ground.data }, { on := 0, ground := Ground.phase }, { on := 1, ground := Ground.phase }, { on := 2, ground := Ground.phase }, { on := 3, ground := Ground.phase }, { on := 4, ground := Ground.phase }, { on := 5, ground := Ground.phase }, { on := 6, ground := Ground.phase }, { on := 7, ground := Ground.phase }, { on := 8, ground := Ground.textOnly Departure.lateStores }], guard := none }) (v := ?v9r1q2) rfl (by kernel_rfl) (fun _ _ _ h => h) (by rfl) hHeld ?h9r1q2 ?_
      case h9r1q2 => (intro w' hSw; (try dsimp only at hSw); go_simp; try with_reducible rfl)
      (try simp only [Act.put, List.setIfInBounds_toArray, List.set_cons_zero, List.set_cons_succ])
      refine wpAnyT_take (i := 10) (oi := { dst := some 7, op := Op.assign (Operand.tmp 17), type := 4, pos := "hash.go:112", after := #[{ on := 8, ground := Ground.data }, { on := 9, ground := Ground.chain }, { on := 0, ground := Ground.phase }, { on := 1, ground := Ground.phase }, { on := 2, ground := Ground.phase }, { on := 3, ground := Ground.phase }, { on := 4, ground := Ground.phase }, { on := 5, ground := Ground.phase }, { on := 6, ground := Ground.phase }, { on := 7, ground := Ground.phase }, { on := 8, ground := Ground.phase }, { on := 9, ground := Ground.phase }], guard := none }) (v := ?v10r1q2) rfl (by kernel_rfl) (fun _ _ _ h => h) (by rfl) hHeld ?h10r1q2 ?_
      case h10r1q2 => (intro w' hSw; (try dsimp only at hSw); go_simp; try with_reducible rfl)
      (try simp only [Act.put, List.setIfInBounds_toArray, List.set_cons_zero, List.set_cons_succ])
      clear hHeld
      refine wpAnyT_done (by kernel_rfl) ?_
      go_wp2_with (go_at_call 88; refine (HLAST.out _ (bt HB1.out (Nat.le_refl _) (Below.refl _ _).drew)).mono ?_; rintro e w2 ⟨rfl, hb2⟩; have HB2 := Lib.hid hb2; clear hb2)
      go_ret2
      exact ⟨rfl, Did.of_below HH.out (bt HB1.out (Nat.le_refl _) (bt (Below.refl _ _).drew (Nat.le_refl _) HB2.out))⟩
    · have hsmall : n < 16384 := by omega
      have HR : Hid (b.gate x y = ((b.out n, 0), { b with g := b.g ++ [(x, y)] })) := Lib.hid (by unfold Bd.gate; rw [hf]; simp only; rw [if_neg (by rw [HLA.out, HN.out]; omega), HN.out])
      have HOUT : Hid (b.out n = 2 * (la : Int) + 2) := Lib.hid (by rw [← HLA.out, ← HN.out]; unfold Bd.out Bd.last; push_cast; omega)
      have HF := Lib.hid hf
      rw [HR.out, HOUT.out]
      simp only
      have hlai : ¬ (16384 : Int) ≤ (la : Int) := by omega
      have hni : ¬ (16384 : Int) ≤ (n : Int) := by omega
      have hmw : IntKind.i64.wrap (2 * (la : Int)) = 2 * (la : Int) := by simp [IntKind.wrap, IntKind.bits, IntKind.signed]; omega
      have hmw2 : IntKind.i64.wrap (2 * (la : Int) + 2) = 2 * (la : Int) + 2 := by simp [IntKind.wrap, IntKind.bits, IntKind.signed]; omega
      clear hf hc hlook hm hkey hx hn hla hkx hW1 hS hxb hfull
      go_enter Try.func99, Try.ntmps99
      go_upto_region 1 with (fail)
      rw [HW1.out]
      refine wp_region_T (by kernel_rfl) (fun w' => w'.cell? ⟨bx, 3, none⟩ = some (.map (some m)) ∧ w'.cell? ⟨w.heap.size, 0, none⟩ = some (.int .i64 x) ∧ w'.cell? ⟨w.heap.size, 1, none⟩ = some (.int .i64 y) ∧ w'.heap[m]? = w.heap[m]?) 11 ?_
      have hHeld := HS.out _ (Below.refl W1.heap.size W1).drew
      refine wpAnyT_take (i := 0) (oi := { dst := some 10, op := Op.move (Operand.tmp 0), type := 83, pos := "hash.go:112", after := #[], guard := none }) (v := ?v0r1q3) rfl (by kernel_rfl) (fun _ _ _ h => h) (by rfl) hHeld ?h0r1q3 ?_
      case h0r1q3 => (intro w' hSw; (try dsimp only at hSw); go_simp; try with_reducible rfl)
      (try simp only [Act.put, List.setIfInBounds_toArray, List.set_cons_zero, List.set_cons_succ])
      refine wpAnyT_take (i := 1) (oi := { dst := some 11, op := Op.nilCheck (Operand.tmp 10), type := 0, pos := "hash.go:112", after := #[{ on := 0, ground := Ground.data }], guard := none }) (v := ?v1r1q3) rfl (by kernel_rfl) (fun _ _ _ h => h) (by rfl) hHeld ?h1r1q3 ?_
      case h1r1q3 => (intro w' hSw; (try dsimp only at hSw); go_simp; try with_reducible rfl)
      (try simp only [Act.put, List.setIfInBounds_toArray, List.set_cons_zero, List.set_cons_succ])
      refine wpAnyT_take (i := 2) (oi := { dst := some 12, op := Op.fieldAddr 136 (Operand.tmp 11) 3, type := 0, pos := "hash.go:112", after := #[{ on := 1, ground := Ground.data }], guard := none }) (v := ?v2r1q3) rfl (by kernel_rfl) (fun _ _ _ h => h) (by rfl) hHeld ?h2r1q3 ?_
      case h2r1q3 => (intro w' hSw; (try dsimp only at hSw); go_simp; try with_reducible rfl)
      (try simp only [Act.put, List.setIfInBounds_toArray, List.set_cons_zero, List.set_cons_succ])
      refine wpAnyT_take (i := 3) (oi := { dst := some 13, op := Op.load 134 (Operand.tmp 12), type := 134, pos := "hash.go:112", after := #[{ on := 2, ground := Ground.data }], guard := none }) (v := ?v3r1q3) rfl (by kernel_rfl) (fun _ _ _ h => h) (by rfl) hHeld ?h3r1q3 ?_
      case h3r1q3 => (intro w' hSw; (try dsimp only at hSw); go_simp; try with_reducible rfl)
      (try simp only [Act.put, List.setIfInBounds_toArray, List.set_cons_zero, List.set_cons_succ])
      refine wpAnyT_take (i := 4) (oi := { dst := some 14, op := Op.load 149 (Operand.tmp 3), type := 149, pos := "hash.go:112", after := #[], guard := none }) (v := ?v4r1q3) rfl (by kernel_rfl) (fun _ _ _ h => h) (by rfl) hHeld ?h4r1q3 ?_
      case h4r1q3 => (intro w' hSw; (try dsimp only at hSw); go_simp; try with_reducible rfl)
      (try simp only [Act.put, List.setIfInBounds_toArray, List.set_cons_zero, List.set_cons_succ])
      refine wpAnyT_take (i := 5) (oi := { dst := some 15, op := Op.lookup 134 (Operand.tmp 13) (Operand.tmp 14) true, type := 191, pos := "hash.go:112", after := #[{ on := 3, ground := Ground.data }, { on := 4, ground := Ground.data }], guard := none }) (v := ?v5r1q3) rfl (by kernel_rfl) (fun _ _ _ h => h) (by rfl) hHeld ?h5r1q3 ?_
      case h5r1q3 => (intro w' hSw; (try dsimp only at hSw); have hL := HLOOK.out w' hSw.2.2.2; go_simp; try with_reducible rfl)
      (try simp only [Act.put, List.setIfInBounds_toArray, List.set_cons_zero, List.set_cons_succ])
      refine wpAnyT_take (i := 6) (oi := { dst := some 9, op := Op.move (Operand.tmp 15), type := 191, pos := "hash.go:112", after := #[{ on := 5, ground := Ground.data }], guard := none }) (v := ?v6r1q3) rfl (by kernel_rfl) (fun _ _ _ h => h) (by rfl) hHeld ?h6r1q3 ?_
      case h6r1q3 => (intro w' hSw; (try dsimp only at hSw); go_simp; try with_reducible rfl)
      (try simp only [Act.put, List.setIfInBounds_toArray, List.set_cons_zero, List.set_cons_succ])
      refine wpAnyT_take (i := 7) (oi := { dst := some 16, op := Op.extract (Operand.tmp 9) 0, type := 3, pos := "hash.go:112", after := #[{ on := 6, ground := Ground.data }], guard := none }) (v := ?v7r1q3) rfl (by kernel_rfl) (fun _ _ _ h => h) (by rfl) hHeld ?h7r1q3 ?_
      case h7r1q3 => (intro w' hSw; (try dsimp only at hSw); go_simp; try with_reducible rfl)
      (try simp only [Act.put, List.setIfInBounds_toArray, List.set_cons_zero, List.set_cons_succ])
      refine wpAnyT_take (i := 8) (oi := { dst := some 17, op := Op.extract (Operand.tmp 9) 1, type := 4, pos := "hash.go:112", after := #[{ on := 6, ground := Ground.data }, { on := 9, ground := Ground.gcOnly Departure.lateStores }], guard := none }) (v := ?v8r1q3) rfl (by kernel_rfl) (fun _ _ _ h => h) (by rfl) hHeld ?h8r1q3 ?_
      case h8r1q3 => (intro w' hSw; (try dsimp only at hSw); go_simp; try with_reducible rfl)
      (try simp only [Act.put, List.setIfInBounds_toArray, List.set_cons_zero, List.set_cons_succ])
      refine wpAnyT_take (i := 9) (oi := { dst := some 6, op := Op.assign (Operand.tmp 16), type := 3, pos := "hash.go:112", after := #[{ on := 7, ground := Ground.data }, { on := 0, ground := Ground.phase }, { on := 1, ground := Ground.phase }, { on := 2, ground := Ground.phase }, { on := 3, ground := Ground.phase }, { on := 4, ground := Ground.phase }, { on := 5, ground := Ground.phase }, { on := 6, ground := Ground.phase }, { on := 7, ground := Ground.phase }, { on := 8, ground := Ground.textOnly Departure.lateStores }], guard := none }) (v := ?v9r1q3) rfl (by kernel_rfl) (fun _ _ _ h => h) (by rfl) hHeld ?h9r1q3 ?_
      case h9r1q3 => (intro w' hSw; (try dsimp only at hSw); go_simp; try with_reducible rfl)
      (try simp only [Act.put, List.setIfInBounds_toArray, List.set_cons_zero, List.set_cons_succ])
      refine wpAnyT_take (i := 10) (oi := { dst := some 7, op := Op.assign (Operand.tmp 17), type := 4, pos := "hash.go:112", after := #[{ on := 8, ground := Ground.data }, { on := 9, ground := Ground.chain }, { on := 0, ground := Ground.phase }, { on := 1, ground := Ground.phase }, { on := 2, ground := Ground.phase }, { on := 3, ground := Ground.phase }, { on := 4, ground := Ground.phase }, { on := 5, ground := Ground.phase }, { on := 6, ground := Ground.phase }, { on := 7, ground := Ground.phase }, { on := 8, ground := Ground.phase }, { on := 9, ground := Ground.phase }], guard := none }) (v := ?v10r1q3) rfl (by kernel_rfl) (fun _ _ _ h => h) (by rfl) hHeld ?h10r1q3 ?_
      case h10r1q3 => (intro w' hSw; (try dsimp only at hSw); go_simp; try with_reducible rfl)
      (try simp only [Act.put, List.setIfInBounds_toArray, List.set_cons_zero, List.set_cons_succ])
      clear hHeld
      refine wpAnyT_done (by kernel_rfl) ?_
      obtain ⟨WD, hWD⟩ : ∃ WD, W1.drew = WD := ⟨_, rfl⟩
      rw [hWD]
      have HBD : Hid (Below W1.heap.size W1 WD) := Lib.hid (by rw [← hWD]; exact (Below.refl _ _).drew)
      have b2 := HBX.out _ HBD.out
      clear hWD
      go_upto_region 6 with (go_at_call 88; refine (HLAST.out _ (bt HB1.out (Nat.le_refl _) HBD.out)).mono ?_; rintro e w2 ⟨rfl, hb2⟩; have HB2 := Lib.hid (bt HBD.out (Nat.le_refl _) hb2); clear hb2 b2; have b2 := HBX.out _ HB2.out)
      go_upto_region 7 with (go_at_call 88; refine (HLAST.out _ (bt HB1.out (Nat.le_refl _) HB2.out)).mono ?_; rintro e w3 ⟨rfl, hb3⟩; have HB3 := Lib.hid (bt HB2.out (Nat.le_refl _) hb3); clear hb3 b2)
      obtain ⟨i0, hi0, hz0, hz1, hz2⟩ := info_of2 infoA2
      have HI0 := Lib.hid (And.intro hi0 (And.intro hz0 (And.intro hz1 hz2)))
      have HM3 : Hid (HBm w3 bx m (.slice A n cp) b D) := Lib.hid (by have := HM.out.below (bt HB1.out (Nat.le_refl _) HB3.out); rwa [HN.out] at this)
      have HKX3 : Hid (Blk w3 w.heap.size 149 #[.int .i64 x, .int .i64 y]) := Lib.hid (HKX.out.below HB3.out HKX.out.lt)
      have HBT3 : Hid (Below w.heap.size w w3) := Lib.hid (bt HB1.out (Nat.le_refl _) HB3.out)
      have hbld : ∀ wz : World, (Instr.build 80 #[(0, .int .i64 (2 * (la : Int) + 2)), (1, .int .i64 x), (2, .int .i64 y)]).run Try.prog wz = .ok (.agg #[.int .i64 (2 * (la : Int) + 2), .int .i64 x, .int .i64 y]) wz := fun wz => run_build wz _ _ _ (by kernel_rfl)
      obtain ⟨o, ho⟩ : ∃ o : Int, 2 * (la : Int) + 2 = o := ⟨_, rfl⟩
      rw [ho] at hbld hmw2 HOUT ⊢
      have HC7 : Hid (∀ wz, Below w3.heap.size w3 wz → wz.cell? ⟨bx, 2, none⟩ = some (.slice A n cp) ∧ wz.cell? ⟨w.heap.size, 0, none⟩ = some (.int .i64 x) ∧ wz.cell? ⟨w.heap.size, 1, none⟩ = some (.int .i64 y)) := Lib.hid (fun wz hb => ⟨(HM3.out.box.below hb HM3.out.box.lt).cell 2, (HKX3.out.below hb HKX3.out.lt).cell 0, (HKX3.out.below hb HKX3.out.lt).cell 1⟩)
      have HDR : Hid (Below w3.heap.size w3 w3.drew) := Lib.hid (Below.refl _ _).drew
      have HW5 : Hid (∀ w5, (w3.drew.alloc (.cells #[.int .i64 o, .int .i64 x, .int .i64 y] 80)).grownBy w5 (Value.slice A n cp).ownBlock → (w5.cell? ⟨bx, 2, none⟩ = some (.slice A n cp) ∧ w5.cell? ⟨w.heap.size, 0, none⟩ = some (.int .i64 x) ∧ w5.cell? ⟨w.heap.size, 1, none⟩ = some (.int .i64 y)) ∧ w5.frozen? ⟨bx, 2, none⟩ = false ∧ bx < w5.heap.size ∧ Blk w5 bx 136 #[.int .i64 b.i, .int .i64 b.l, .slice A n cp, .map (some m)] ∧ Blk w5 w.heap.size 149 #[.int .i64 x, .int .i64 y]) := Lib.hid (fun w5 hg => by
        have hb := HDR.out.alloc (Nat.le_refl _) (.cells #[.int .i64 o, .int .i64 x, .int .i64 y] 80)
        have hrow := own_below HM3.out.row hb
        have kk : ∀ (q : Nat) (t : TypeId) (ar : Array Value), Blk (w3.drew.alloc (.cells #[.int .i64 o, .int .i64 x, .int .i64 y] 80)) q t ar → t ≠ 80 → Blk w5 q t ar := fun q t ar hb2 hne => hb2.grown hg (fun e => own_blk_ne hrow hb2 (Ne.symm hne) e.symm)
        have q1 := kk _ _ _ (HM3.out.box.below hb HM3.out.box.lt) (by decide)
        have q2 := kk _ _ _ (HKX3.out.below hb HKX3.out.lt) (by decide)
        exact ⟨⟨q1.cell 2, q2.cell 0, q2.cell 1⟩, q1.frozen _, q1.lt, q1, q2⟩)
      refine wp_region_T (by kernel_rfl) (fun w' => w'.cell? ⟨bx, 2, none⟩ = some (.slice A n cp) ∧ w'.cell? ⟨w.heap.size, 0, none⟩ = some (.int .i64 x) ∧ w'.cell? ⟨w.heap.size, 1, none⟩ = some (.int .i64 y)) 13 ?_
      have hHeld := HC7.out _ HDR.out
      refine wpAnyT_take (i := 0) (oi := { dst := some 35, op := Op.move (Operand.tmp 0), type := 83, pos := "hash.go:119", after := #[], guard := none }) (v := ?v0r7q4) rfl (by kernel_rfl) (fun _ _ _ h => h) (by rfl) hHeld ?h0r7q4 ?_
      case h0r7q4 => (intro w' hSw; (try dsimp only at hSw); go_simp; try with_reducible rfl)
      (try simp only [Act.put, List.setIfInBounds_toArray, List.set_cons_zero, List.set_cons_succ])
      refine wpAnyT_take (i := 1) (oi := { dst := some 36, op := Op.move (Operand.tmp 0), type := 83, pos := "hash.go:119", after := #[], guard := none }) (v := ?v1r7q4) rfl (by kernel_rfl) (fun _ _ _ h => h) (by rfl) hHeld ?h1r7q4 ?_
      case h1r7q4 => (intro w' hSw; (try dsimp only at hSw); go_simp; try with_reducible rfl)
      (try simp only [Act.put, List.setIfInBounds_toArray, List.set_cons_zero, List.set_cons_succ])
      refine wpAnyT_take (i := 2) (oi := { dst := some 37, op := Op.nilCheck (Operand.tmp 36), type := 0, pos := "hash.go:119", after := #[{ on := 1, ground := Ground.data }], guard := none }) (v := ?v2r7q4) rfl (by kernel_rfl) (fun _ _ _ h => h) (by rfl) hHeld ?h2r7q4 ?_
      case h2r7q4 => (intro w' hSw; (try dsimp only at hSw); go_simp; try with_reducible rfl)
      (try simp only [Act.put, List.setIfInBounds_toArray, List.set_cons_zero, List.set_cons_succ])
      refine wpAnyT_take (i := 3) (oi := { dst := some 38, op := Op.fieldAddr 136 (Operand.tmp 37) 2, type := 0, pos := "hash.go:119", after := #[{ on := 2, ground := Ground.data }], guard := none }) (v := ?v3r7q4) rfl (by kernel_rfl) (fun _ _ _ h => h) (by rfl) hHeld ?h3r7q4 ?_
      case h3r7q4 => (intro w' hSw; (try dsimp only at hSw); go_simp; try with_reducible rfl)
      (try simp only [Act.put, List.setIfInBounds_toArray, List.set_cons_zero, List.set_cons_succ])
      refine wpAnyT_take (i := 4) (oi := { dst := some 39, op := Op.load 25 (Operand.tmp 38), type := 25, pos := "hash.go:119", after := #[{ on := 3, ground := Ground.data }], guard := none }) (v := ?v4r7q4) rfl (by kernel_rfl) (fun _ _ _ h => h) (by rfl) hHeld ?h4r7q4 ?_
      case h4r7q4 => (intro w' hSw; (try dsimp only at hSw); go_simp; try with_reducible rfl)
      (try simp only [Act.put, List.setIfInBounds_toArray, List.set_cons_zero, List.set_cons_succ])
      refine wpAnyT_take (i := 5) (oi := { dst := some 40, op := Op.move (Operand.tmp 8), type := 3, pos := "hash.go:119", after := #[], guard := none }) (v := ?v5r7q4) rfl (by kernel_rfl) (fun _ _ _ h => h) (by rfl) hHeld ?h5r7q4 ?_
      case h5r7q4 => (intro w' hSw; (try dsimp only at hSw); go_simp; try with_reducible rfl)
      (try simp only [Act.put, List.setIfInBounds_toArray, List.set_cons_zero, List.set_cons_succ])
      refine wpAnyT_take (i := 6) (oi := { dst := some 41, op := Op.fieldAddr 149 (Operand.tmp 3) 0, type := 0, pos := "hash.go:119", after := #[], guard := none }) (v := ?v6r7q4) rfl (by kernel_rfl) (fun _ _ _ h => h) (by rfl) hHeld ?h6r7q4 ?_
      case h6r7q4 => (intro w' hSw; (try dsimp only at hSw); go_simp; try with_reducible rfl)
      (try simp only [Act.put, List.setIfInBounds_toArray, List.set_cons_zero, List.set_cons_succ])
      refine wpAnyT_take (i := 7) (oi := { dst := some 42, op := Op.load 3 (Operand.tmp 41), type := 3, pos := "hash.go:119", after := #[{ on := 6, ground := Ground.data }], guard := none }) (v := ?v7r7q4) rfl (by kernel_rfl) (fun _ _ _ h => h) (by rfl) hHeld ?h7r7q4 ?_
      case h7r7q4 => (intro w' hSw; (try dsimp only at hSw); go_simp; try with_reducible rfl)
      (try simp only [Act.put, List.setIfInBounds_toArray, List.set_cons_zero, List.set_cons_succ])
      refine wpAnyT_take (i := 8) (oi := { dst := some 43, op := Op.fieldAddr 149 (Operand.tmp 3) 1, type := 0, pos := "hash.go:119", after := #[], guard := none }) (v := ?v8r7q4) rfl (by kernel_rfl) (fun _ _ _ h => h) (by rfl) hHeld ?h8r7q4 ?_
      case h8r7q4 => (intro w' hSw; (try dsimp only at hSw); go_simp; try with_reducible rfl)
      (try simp only [Act.put, List.setIfInBounds_toArray, List.set_cons_zero, List.set_cons_succ])
      refine wpAnyT_take (i := 9) (oi := { dst := some 44, op := Op.load 3 (Operand.tmp 43), type := 3, pos := "hash.go:119", after := #[{ on := 8, ground := Ground.data }], guard := none }) (v := ?v9r7q4) rfl (by kernel_rfl) (fun _ _ _ h => h) (by rfl) hHeld ?h9r7q4 ?_
      case h9r7q4 => (intro w' hSw; (try dsimp only at hSw); go_simp; try with_reducible rfl)
      (try simp only [Act.put, List.setIfInBounds_toArray, List.set_cons_zero, List.set_cons_succ])
      refine wpAnyT_take (i := 10) (oi := { dst := some 45, op := Op.build 80 #[(0, Operand.tmp 40), (1, Operand.tmp 42), (2, Operand.tmp 44)], type := 80, pos := "hash.go:119", after := #[{ on := 5, ground := Ground.data }, { on := 7, ground := Ground.data }, { on := 9, ground := Ground.data }], guard := none }) (v := ?v10r7q4) rfl (by kernel_rfl) (fun _ _ _ h => h) (by rfl) hHeld ?h10r7q4 ?_
      case h10r7q4 => (intro w' hSw; (try dsimp only at hSw); go_simp; try with_reducible rfl)
      (try simp only [Act.put, List.setIfInBounds_toArray, List.set_cons_zero, List.set_cons_succ])
      clear hHeld
      refine wpAnyT_one (i := 11) (o := { dst := some 46, op := Op.buildSlice 25 1 #[(0, Operand.tmp 45)], type := 25, pos := "hash.go:119", after := #[{ on := 10, ground := Ground.data }], guard := none }) rfl (by kernel_rfl) (fun K hK => ?_)
      go_simp
      refine hK.out _ _ (fun _ => HC7.out _ (HDR.out.alloc (Nat.le_refl _) _)) ?_
      clear hK K
      (try simp only [Act.put, List.setIfInBounds_toArray, List.set_cons_zero, List.set_cons_succ])
      refine wpAnyT_one (i := 12) (o := { dst := some 47, op := Op.call { callee := Callee.builtin Builtin.append, args := #[Operand.tmp 39, Operand.tmp 46], argTypes := #[25, 25] }, type := 25, pos := "hash.go:119", after := #[{ on := 4, ground := Ground.data }, { on := 11, ground := Ground.data }], guard := none }) rfl (by kernel_rfl) (fun K hK => ?_)
      refine step_append_any _ rfl (.tmp 39) (.tmp 46) _ rfl 0 80 i0 _ 3 24 Try.underlying25 HI0.out.1 HI0.out.2.1 HI0.out.2.2.1 HI0.out.2.2.2 rfl (by omega) (.slice A n cp) n (b.tris.flatMap encT) (by first | rfl | (simp [Act.eval])) (by have := own_below HM3.out.row (HDR.out.alloc (Nat.le_refl _) (.cells #[.int .i64 o, .int .i64 x, .int .i64 y] 80)); rwa [HN.out] at this) (w3.heap.size + 1) (some ⟨w3.heap.size, 0, none⟩) 1 1 [.int .i64 o, .int .i64 x, .int .i64 y] (by first | rfl | (simp [Act.eval])) (reads_triple _ _ _ _ _) (by simp [Value.oneCell']) (by simp only [maxLen]; omega) (by omega) (Nat.zero_le _) ?_
      intro v5 w5 hown hg hat
      obtain ⟨B5, k5, hf5⟩ := own_slice_k hown
      subst hf5
      obtain ⟨hq5, qf, ql, qb, qk⟩ := HW5.out _ hg
      refine hK.out _ _ (fun _ => hq5) ?_
      clear hK K
      (try simp only [Act.put, List.setIfInBounds_toArray, List.set_cons_zero, List.set_cons_succ])
      have HO5 := Lib.hid hown
      have HGR := Lib.hid hg
      have HAT := Lib.hid hat
      have HQB := Lib.hid qb
      have HQK := Lib.hid qk
      clear hown hg hat qb qk
      refine wpAnyT_one (i := 13) (o := { dst := some 48, op := Op.nilCheck (Operand.tmp 35), type := 0, pos := "hash.go:119", after := #[{ on := 0, ground := Ground.data }, { on := 0, ground := Ground.phase }, { on := 1, ground := Ground.phase }, { on := 2, ground := Ground.phase }, { on := 3, ground := Ground.phase }, { on := 4, ground := Ground.phase }, { on := 5, ground := Ground.phase }, { on := 6, ground := Ground.phase }, { on := 7, ground := Ground.phase }, { on := 8, ground := Ground.phase }, { on := 9, ground := Ground.phase }, { on := 10, ground := Ground.phase }, { on := 11, ground := Ground.phase }, { on := 12, ground := Ground.phase }], guard := none }) rfl (by kernel_rfl) (fun K hK => ?_)
      go_simp
      refine hK.out _ _ (fun h => absurd h (by decide)) ?_
      clear hK K
      (try simp only [Act.put, List.setIfInBounds_toArray, List.set_cons_zero, List.set_cons_succ])
      refine wpAnyT_one (i := 14) (o := { dst := some 49, op := Op.fieldAddr 136 (Operand.tmp 48) 2, type := 0, pos := "hash.go:119", after := #[{ on := 13, ground := Ground.data }, { on := 0, ground := Ground.phase }, { on := 1, ground := Ground.phase }, { on := 2, ground := Ground.phase }, { on := 3, ground := Ground.phase }, { on := 4, ground := Ground.phase }, { on := 5, ground := Ground.phase }, { on := 6, ground := Ground.phase }, { on := 7, ground := Ground.phase }, { on := 8, ground := Ground.phase }, { on := 9, ground := Ground.phase }, { on := 10, ground := Ground.phase }, { on := 11, ground := Ground.phase }, { on := 12, ground := Ground.phase }], guard := none }) rfl (by kernel_rfl) (fun K hK => ?_)
      go_simp
      refine hK.out _ _ (fun h => absurd h (by decide)) ?_
      clear hK K
      (try simp only [Act.put, List.setIfInBounds_toArray, List.set_cons_zero, List.set_cons_succ])
      refine wpAnyT_one (i := 15) (o := { dst := none, op := Op.store 25 (Operand.tmp 49) (Operand.tmp 47), type := 0, pos := "hash.go:119", after := #[{ on := 14, ground := Ground.data }, { on := 12, ground := Ground.data }, { on := 12, ground := Ground.chain }, { on := 0, ground := Ground.phase }, { on := 1, ground := Ground.phase }, { on := 2, ground := Ground.phase }, { on := 3, ground := Ground.phase }, { on := 4, ground := Ground.phase }, { on := 5, ground := Ground.phase }, { on := 6, ground := Ground.phase }, { on := 7, ground := Ground.phase }, { on := 8, ground := Ground.phase }, { on := 9, ground := Ground.phase }, { on := 10, ground := Ground.phase }, { on := 11, ground := Ground.phase }, { on := 12, ground := Ground.phase }], guard := none }) rfl (by kernel_rfl) (fun K hK => ?_)
      go_simp
      refine hK.out _ _ (fun h => absurd h (by decide)) ?_
      clear hK K hq5
      (try simp only [Act.put, List.setIfInBounds_toArray, List.set_cons_zero, List.set_cons_succ])
      refine wpAnyT_done (by kernel_rfl) ?_
      obtain ⟨W6, hW6⟩ : ∃ W6, w5.setCell ⟨bx, 2, none⟩ (.slice B5 (n + 1) k5) = W6 := ⟨_, rfl⟩
      rw [hW6]
      have hkxb : w.heap.size ≠ bx := by have := HM.out.box.lt; omega
      have hmap5 : w5.ownsMap Try.prog 149 (plainElem Try.prog 3) m n D := by
        have hq := HM3.out.map
        rw [HN.out] at hq
        have hlt := hq.lt
        refine map_kept hq ?_
        have h9 := HGR.out.block m (by simp; omega) (fun e => by
          obtain ⟨es, clock, e1, _⟩ := hq
          exact row_ne HM3.out.row e1 e.symm)
        rw [h9]
        exact Below.heap_alloc _ _ _ hlt
      have hmap6 : W6.ownsMap Try.prog 149 (plainElem Try.prog 3) m n D := by
        refine map_kept hmap5 ?_
        rw [← hW6]
        exact Below.heap_setCell _ _ _ _ (fun e => map_ne hmap5 HQB.out e.symm)
      have hbox6 : Blk W6 bx 136 #[.int .i64 b.i, .int .i64 b.l, .slice B5 (n + 1) k5, .map (some m)] := by
        have := Blk.set_ HQB.out 2 (.slice B5 (n + 1) k5)
        rw [hW6] at this
        exact this
      have hrow6 : W6.ownsRow 0 80 3 (.slice B5 (n + 1) k5) (n + 1) (b.tris.flatMap encT ++ [.int .i64 o, .int .i64 x, .int .i64 y]) := own_of_block HO5.out (fun g hg => by
        rw [← hW6]
        exact Below.heap_setCell _ _ _ _ (fun e => own_blk_ne HO5.out HQB.out (by decide) (by rw [hg, e])))
      have hkx6 : Blk W6 w.heap.size 149 #[.int .i64 x, .int .i64 y] := by rw [← hW6]; exact HQK.out.far hkxb _
      have hbut6 : But (Foot bx m (.slice A n cp)) w W6 := by
        rw [← hW6]
        refine But.set_ ((((But.of_below HBT3.out).drew.alloc (.cells #[.int .i64 o, .int .i64 x, .int .i64 y] 80))).grown HGR.out (fun k hk => .inl (.inr (.inr hk)))) (.inl (.inl rfl)) _
      have hsz6 : w.heap.size ≤ w3.heap.size := HBT3.out.size
      have HM6 := Lib.hid (And.intro hmap6 (And.intro hbox6 (And.intro hrow6 (And.intro hkx6 hbut6))))
      have HC8 : Hid (W6.drew.cell? ⟨bx, 3, none⟩ = some (.map (some m)) ∧ W6.drew.cell? ⟨w.heap.size, 0, none⟩ = some (.int .i64 x) ∧ W6.drew.cell? ⟨w.heap.size, 1, none⟩ = some (.int .i64 y)) := Lib.hid ⟨hbox6.cell 3, hkx6.cell 0, hkx6.cell 1⟩
      clear hmap5 hmap6 hbox6 hrow6 hkx6 hbut6 hW6 qf ql hbld
      go_upto_region 8 with (fail)
      refine wp_region_T (by kernel_rfl) (fun w' => w'.cell? ⟨bx, 3, none⟩ = some (.map (some m)) ∧ w'.cell? ⟨w.heap.size, 0, none⟩ = some (.int .i64 x) ∧ w'.cell? ⟨w.heap.size, 1, none⟩ = some (.int .i64 y)) 6 ?_
      have hHeld := HC8.out
      refine wpAnyT_take (i := 0) (oi := { dst := some 50, op := Op.move (Operand.tmp 0), type := 83, pos := "hash.go:120", after := #[], guard := none }) (v := ?v0r8q5) rfl (by kernel_rfl) (fun _ _ _ h => h) (by rfl) hHeld ?h0r8q5 ?_
      case h0r8q5 => (intro w' hSw; (try dsimp only at hSw); go_simp; try with_reducible rfl)
      (try simp only [Act.put, List.setIfInBounds_toArray, List.set_cons_zero, List.set_cons_succ])
      refine wpAnyT_take (i := 1) (oi := { dst := some 51, op := Op.nilCheck (Operand.tmp 50), type := 0, pos := "hash.go:120", after := #[{ on := 0, ground := Ground.data }], guard := none }) (v := ?v1r8q5) rfl (by kernel_rfl) (fun _ _ _ h => h) (by rfl) hHeld ?h1r8q5 ?_
      case h1r8q5 => (intro w' hSw; (try dsimp only at hSw); go_simp; try with_reducible rfl)
      (try simp only [Act.put, List.setIfInBounds_toArray, List.set_cons_zero, List.set_cons_succ])
      refine wpAnyT_take (i := 2) (oi := { dst := some 52, op := Op.fieldAddr 136 (Operand.tmp 51) 3, type := 0, pos := "hash.go:120", after := #[{ on := 1, ground := Ground.data }], guard := none }) (v := ?v2r8q5) rfl (by kernel_rfl) (fun _ _ _ h => h) (by rfl) hHeld ?h2r8q5 ?_
      case h2r8q5 => (intro w' hSw; (try dsimp only at hSw); go_simp; try with_reducible rfl)
      (try simp only [Act.put, List.setIfInBounds_toArray, List.set_cons_zero, List.set_cons_succ])
      refine wpAnyT_take (i := 3) (oi := { dst := some 53, op := Op.load 134 (Operand.tmp 52), type := 134, pos := "hash.go:120", after := #[{ on := 2, ground := Ground.data }], guard := none }) (v := ?v3r8q5) rfl (by kernel_rfl) (fun _ _ _ h => h) (by rfl) hHeld ?h3r8q5 ?_
      case h3r8q5 => (intro w' hSw; (try dsimp only at hSw); go_simp; try with_reducible rfl)
      (try simp only [Act.put, List.setIfInBounds_toArray, List.set_cons_zero, List.set_cons_succ])
      refine wpAnyT_take (i := 4) (oi := { dst := some 54, op := Op.load 149 (Operand.tmp 3), type := 149, pos := "hash.go:120", after := #[], guard := none }) (v := ?v4r8q5) rfl (by kernel_rfl) (fun _ _ _ h => h) (by rfl) hHeld ?h4r8q5 ?_
      case h4r8q5 => (intro w' hSw; (try dsimp only at hSw); go_simp; try with_reducible rfl)
      (try simp only [Act.put, List.setIfInBounds_toArray, List.set_cons_zero, List.set_cons_succ])
      refine wpAnyT_take (i := 5) (oi := { dst := some 55, op := Op.move (Operand.tmp 8), type := 3, pos := "hash.go:120", after := #[], guard := none }) (v := ?v5r8q5) rfl (by kernel_rfl) (fun _ _ _ h => h) (by rfl) hHeld ?h5r8q5 ?_
      case h5r8q5 => (intro w' hSw; (try dsimp only at hSw); go_simp; try with_reducible rfl)
      (try simp only [Act.put, List.setIfInBounds_toArray, List.set_cons_zero, List.set_cons_succ])
      clear hHeld
      refine wpAnyT_one (i := 6) (o := { dst := none, op := Op.mapUpdate 134 (Operand.tmp 53) (Operand.tmp 54) (Operand.tmp 55), type := 0, pos := "hash.go:120", after := #[{ on := 3, ground := Ground.data }, { on := 4, ground := Ground.data }, { on := 5, ground := Ground.data }, { on := 0, ground := Ground.phase }, { on := 1, ground := Ground.phase }, { on := 2, ground := Ground.phase }, { on := 3, ground := Ground.phase }, { on := 4, ground := Ground.phase }, { on := 5, ground := Ground.phase }], guard := none }) rfl (by kernel_rfl) (fun K hK => ?_)
      refine step_mapUpdate (H := Unit) rfl (.tmp 53) (.tmp 54) (.tmp 55) 134 rfl 149 3 keyPair Try.underlying134 (plainElem Try.prog 3) m n D (by first | rfl | (simp [Act.eval])) HM6.out.1.drew (by simp only [maxLen]; omega) (.agg #[.int .i64 x, .int .i64 y]) (.int .i64 o) kl (by first | rfl | (simp [Act.eval])) (by first | rfl | (simp [Act.eval])) HKEY.out (.lit (.int .i64 o)) [] (plainElem_int Try.underlying3 (wf64 (by unfold I64; omega))) ?_
      intro w7 hmap7 hg7
      refine hK.out _ _ (fun h => absurd h (by decide)) ?_
      clear hK K
      (try simp only [Act.put])
      have HM7 := Lib.hid hmap7
      have HG7 := Lib.hid hg7
      clear hmap7 hg7
      refine wpAnyT_done (by kernel_rfl) ?_
      go_wp2
      go_ret2
      refine ⟨(by first | rfl | (rw [ho]; rfl) | (rw [← ho]; rfl) | (rw [ho])), Foot bx m (.slice B5 (n + 1) k5), ⟨m, .slice B5 (n + 1) k5, D.put kl (.lit (.int .i64 o)), ⟨?_, ?_, ?_, ?_, ?_⟩, rfl⟩, ?_, ?_⟩
      · refine HM6.out.2.1.drew.grown HG7.out (fun e => ?_)
        injection e with e
        exact map_ne HM6.out.1 HM6.out.2.1 e
      · rw [tris_snoc]
        have e1 : (b.g ++ [(x, y)]).length = n + 1 := by rw [List.length_append, HN.out]; rfl
        rw [e1, List.flatMap_append, HN.out, HOUT.out]
        refine own_of_block (w := W6) HM6.out.2.2.1 (fun g hg => ?_)
        refine (HG7.out.block g (HM6.out.2.2.1.lt g hg).2 (fun e => ?_)).trans rfl
        injection e with e
        obtain ⟨es, clock, e1, _⟩ := HM6.out.1
        exact row_ne HM6.out.2.2.1 e1 (by rw [hg, e])
      · have e1 : (b.g ++ [(x, y)]).length = n + 1 := by rw [List.length_append, HN.out]; rfl
        rw [e1]
        exact HM7.out
      · have := HM.out.dat.put HKEY.out HF.out
        rw [HN.out, HOUT.out] at this
        exact this
      · have := (gate_spec HM.out.ok h1 h2 h3 HXH.out).ok
        rwa [HR.out] at this
      · rw [HN.out]
        exact HM6.out.2.2.2.2.drew.grown HG7.out (fun k hk => .inl (.inr (.inl (by injection hk with hk; exact hk.symm))))
      · intro k hk
        rw [HN.out]
        rcases hk with q | q | q
        · exact .inl (.inl q)
        · exact .inl (.inr (.inl q))
        · rcases HAT.out with e | e
          · exact .inl (.inr (.inr (by rw [← e]; exact q)))
          · rw [e] at q
            injection q with q
            refine .inr ?_
            subst q
            exact Nat.le_trans hsz6 (by simp)
end Go.Proofs.Ytilbgopdciiadaa

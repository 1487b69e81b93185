/- Hash: what memory holds of a builder of the program; the contracts of last and has. -/
import Derived.Test.YtilbgopdciiadaaHshQ
import Derived.Test.YtilbgopdciiadaaTrnF
import Derived.Maps.OwnSet
import Derived.DeepKeys4
namespace Go.Proofs.Ytilbgopdciiadaa
open Go.RowKit Go.Maps

theorem keyPair : Keyed Try.prog 149 := Keyed.of_law (deep_law_laid laidOut (m := 3) (by omega) (of_decide_eq_true (by kernel_rfl)) (by kernel_rfl) (by kernel_rfl))
theorem zeroInt (w : World) : (zeroValue 3).run Try.prog w = .ok (.int .i64 0) w := by kernel_rfl
theorem keyLits_pair (a b : Int) (ha : (Lit.int .i64 a).wf = true) (hb : (Lit.int .i64 b).wf = true) (d : Nat) : Try.prog.keyLits (d + 2) 149 [.int .i64 a, .int .i64 b] = some [.int .i64 a, .int .i64 b] := by
  have hc : Try.prog.cellsOf 149 = 2 := by kernel_rfl
  have hc3 : Try.prog.cellsOf 3 = 1 := by kernel_rfl
  simp [Program.keyLits, Try.underlying149, Try.underlying3, hc, hc3, ha, hb]
theorem wf64 {a : Int} (h : I64 a) : (Lit.int .i64 a).wf = true := by unfold I64 at h; simp [Lit.wf, IntKind.min, IntKind.max, IntKind.signed, IntKind.bits]; omega
theorem keyP_some (a b : Int) (ha : I64 a) (hb : I64 b) : ∃ kl, keyOf Try.prog 149 (.agg #[.int .i64 a, .int .i64 b]) = some kl := by
  have hk : Try.prog.keyType 149 = true := by kernel_rfl
  have hf : (Value.agg #[.int .i64 a, .int .i64 b]).formed Try.prog 149 = true := by
    have hc : Try.prog.cellsOf 149 = 2 := by kernel_rfl
    simp [Value.formed, Try.underlying149, hc]
  have hs : ∃ d, Try.prog.types.size + 1 = d + 2 := ⟨Try.prog.types.size - 1, by have : 1 ≤ Try.prog.types.size := of_decide_eq_true (by kernel_rfl); omega⟩
  obtain ⟨d, hd⟩ := hs
  have hl := keyLits_pair a b (wf64 ha) (wf64 hb) d
  unfold keyOf
  rw [hd]
  simp only [Try.underlying149, hk, hf, Bool.and_self, if_true]
  refine ⟨.string (keyBytes [.int .i64 a, .int .i64 b]), ?_⟩
  show Option.map _ (Try.prog.keyLits (d + 2) 149 [.int .i64 a, .int .i64 b]) = _
  rw [hl]; rfl
theorem keyP_inj {a b a' b' : Int} {kl : Lit} (h : keyOf Try.prog 149 (.agg #[.int .i64 a, .int .i64 b]) = some kl) (h' : keyOf Try.prog 149 (.agg #[.int .i64 a', .int .i64 b']) = some kl) : a = a' ∧ b = b' := by
  have := keyPair.inj h h'
  simpa using this

/-- The map D leads each pair that is a gate's to its Out. -/
structure Found (D : DataW Unit) (b : Bd) : Prop where
  m : IsMap D
  h : ∀ (x y : Int) (kl : Lit), keyOf Try.prog 149 (.agg #[.int .i64 x, .int .i64 y]) = some kl → Maps.has D kl = (findP (x, y) b.g 0).isSome ∧ ∀ k, findP (x, y) b.g 0 = some k → D.atKey kl (.lit (.int .i64 0)) = .lit (.int .i64 (b.out k))
theorem findP_snoc {p q : Int × Int} : ∀ (l : List (Int × Int)) (k : Nat), findP p (l ++ [q]) k = (findP p l k).or (if q = p then some (k + l.length) else none)
  | [], k => by simp [findP]
  | r :: l, k => by
    show (if r = p then some k else findP p (l ++ [q]) (k + 1)) = _
    by_cases e : r = p
    · rw [if_pos e]; simp [findP, e]
    · rw [if_neg e, findP_snoc l (k + 1)]
      simp only [findP, if_neg e, List.length_cons]
      rw [show k + 1 + l.length = k + (l.length + 1) by omega]
set_option maxRecDepth 10000 in
theorem Found.put {D : DataW Unit} {b : Bd} (h : Found D b) {x y : Int} {kl : Lit} (hk : keyOf Try.prog 149 (.agg #[.int .i64 x, .int .i64 y]) = some kl) (hn : findP (x, y) b.g 0 = none) :
    Found (D.put kl (.lit (.int .i64 (b.out b.g.length)))) { b with g := b.g ++ [(x, y)] } := by
  refine ⟨h.m.put _ _, fun a c kl' hk' => ?_⟩
  show _ = (findP (a, c) (b.g ++ [(x, y)]) 0).isSome ∧ ∀ k, findP (a, c) (b.g ++ [(x, y)]) 0 = some k → _
  rw [findP_snoc]
  by_cases e : kl' = kl
  · subst e
    obtain ⟨rfl, rfl⟩ := keyP_inj hk hk'
    rw [has_put_same h.m (keyPair.key hk), hn, atKey_put_same h.m (keyPair.key hk)]
    simp only [if_true, Option.none_or, Option.isSome_some, true_and]
    intro k hk2
    injection hk2 with hk2
    subst hk2
    rw [Nat.zero_add]
    rfl
  · have hne : ¬ (x, y) = (a, c) := fun e2 => by
      cases e2
      rw [hk] at hk'
      injection hk' with hk'
      exact e hk'.symm
    rw [has_put_other e, atKey_put_other e, if_neg hne, Option.or_none]
    exact h.h a c kl' hk'

/-- The blocks of a builder. -/
def Foot (bx m : Nat) (gv : Value) (k : Nat) : Prop := k = bx ∨ k = m ∨ gv.ownBlock = some k
structure HBm (w : World) (bx m : Nat) (gv : Value) (b : Bd) (D : DataW Unit) : Prop where
  box : Blk w bx 136 #[.int .i64 b.i, .int .i64 b.l, gv, .map (some m)]
  row : w.ownsRow 0 80 3 gv b.g.length (b.tris.flatMap encT)
  map : w.ownsMap Try.prog 149 (plainElem Try.prog 3) m b.g.length D
  dat : Found D b
  ok : b.Ok
def HB (w : World) (bx : Nat) (b : Bd) (F : Nat → Prop) : Prop := ∃ m gv D, HBm w bx m gv b D ∧ F = Foot bx m gv
/-- A call has made of a builder another one. -/
def Did (w w' : World) (bx : Nat) (F : Nat → Prop) (b : Bd) : Prop := ∃ F', HB w' bx b F' ∧ But F w w' ∧ ∀ k, F' k → F k ∨ w.heap.size ≤ k
section
variable {w w' w2 : World} {bx m : Nat} {gv : Value} {b b' : Bd} {D : DataW Unit} {F G : Nat → Prop}
theorem map_kept {n : Nat} (h : w.ownsMap Try.prog 149 (plainElem Try.prog 3) m n D) (hb : w'.heap[m]? = w.heap[m]?) : w'.ownsMap Try.prog 149 (plainElem Try.prog 3) m n D := by
  obtain ⟨es, clock, h1, h2⟩ := h
  exact ⟨es, clock, hb.trans h1, h2⟩
theorem map_ne {n g : Nat} {t : TypeId} {cs : Array Value} (h : w.ownsMap Try.prog 149 (plainElem Try.prog 3) m n D) (hb : Blk w g t cs) : g ≠ m := fun e => by
  obtain ⟨es, clock, h1, _⟩ := h
  subst e
  unfold Blk at hb
  rw [h1] at hb
  cases hb
theorem row_ne {B n k : Nat} {t : TypeId} {xs : List Value} {es : Array MapEntry} {clock : Nat} (h : w.ownsRow B t k gv n xs) (hm : w.heap[m]? = some (.map es clock)) : gv.ownBlock ≠ some m := fun e => by
  rcases h.2 with ⟨rfl, _⟩ | ⟨g, cap, cur, rfl, _, hg, _⟩
  · simp [Value.ownBlock] at e
  · have : g = m := by simpa [Value.ownBlock] using e
    subst this
    rw [hm] at hg
    cases hg
theorem HBm.lt (h : HBm w bx m gv b D) {k : Nat} (hk : Foot bx m gv k) : k < w.heap.size := by
  rcases hk with e | e | e
  · subst e; exact h.box.lt
  · subst e; exact h.map.lt
  · exact (h.row.lt k e).2
theorem HBm.but (h : HBm w bx m gv b D) (hb : But G w w') (ha : ∀ k, Foot bx m gv k → ¬ G k) : HBm w' bx m gv b D :=
  ⟨hb.blk h.box (ha bx (.inl rfl)), own_of_block h.row (fun g hg => hb.block g (h.row.lt g hg).2 (ha g (.inr (.inr hg)))), map_kept h.map (hb.block m h.map.lt (ha m (.inr (.inl rfl)))), h.dat, h.ok⟩
theorem HBm.below (h : HBm w bx m gv b D) (hb : Below w.heap.size w w') : HBm w' bx m gv b D := h.but (G := fun _ => False) (But.of_below hb) (fun _ _ h => h)
theorem HB.lt (h : HB w bx b F) {k : Nat} (hk : F k) : k < w.heap.size := by
  obtain ⟨m, gv, D, h1, rfl⟩ := h
  exact h1.lt hk
theorem HB.ok (h : HB w bx b F) : b.Ok := by
  obtain ⟨m, gv, D, h1, rfl⟩ := h
  exact h1.ok
theorem HB.but (h : HB w bx b F) (hb : But G w w') (ha : ∀ k, F k → ¬ G k) : HB w' bx b F := by
  obtain ⟨m, gv, D, h1, rfl⟩ := h
  exact ⟨m, gv, D, h1.but hb ha, rfl⟩
theorem HB.below (h : HB w bx b F) (hb : Below w.heap.size w w') : HB w' bx b F := h.but (G := fun _ => False) (But.of_below hb) (fun _ _ h => h)
theorem Did.of_below (h : HB w bx b F) (hb : Below w.heap.size w w') : Did w w' bx F b := ⟨F, h.below hb, But.of_below hb, fun _ h => .inl h⟩
theorem Did.trans (h : Did w w' bx F b) (k : ∀ F', HB w' bx b F' → Did w' w2 bx F' b') : Did w w2 bx F b' := by
  obtain ⟨F1, h1, h2, h3⟩ := h
  obtain ⟨F2, k1, k2, k3⟩ := k F1 h1
  exact ⟨F2, k1, h2.trans k2 h3, fun x hx => by
    rcases k3 x hx with q | q
    · exact h3 x q
    · exact .inr (Nat.le_trans h2.size q)⟩
theorem Did.step (hb : But F w w') (hf : ∀ k, G k → F k ∨ w.heap.size ≤ k) (k : Did w' w2 bx G b') : Did w w2 bx F b' := by
  obtain ⟨F2, k1, k2, k3⟩ := k
  exact ⟨F2, k1, hb.trans k2 hf, fun x hx => by
    rcases k3 x hx with q | q
    · exact hf x q
    · exact .inr (Nat.le_trans hb.size q)⟩
theorem Did.then (h : Did w w' bx F b) (k : Below w'.heap.size w' w2) : Did w w2 bx F b := h.trans fun _ hF => Did.of_below hF k
theorem Did.pre (k : Below w.heap.size w w') (h : Did w' w2 bx F b) : Did w w2 bx F b := by
  obtain ⟨F1, h1, h2, h3⟩ := h
  exact ⟨F1, h1, (But.of_below k).trans h2 (fun x hx => .inl hx), fun x hx => by
    rcases h3 x hx with q | q
    · exact .inl q
    · exact .inr (Nat.le_trans k.size q)⟩
end

set_option maxHeartbeats 2000000 in
set_option maxRecDepth 100000 in
theorem last_any (w : World) (bx : Nat) (b : Bd) (F : Nat → Prop) (h : HB w bx b F) :
    Calls Try.prog 88 #[.pointer (some ⟨bx, 0, none⟩)] w fun e w' => e = .returned (.int .i64 b.last) ∧ Below w.heap.size w w' := by
  obtain ⟨m, gv, D, h1, rfl⟩ := h
  have hl := h1.ok.last
  obtain ⟨A, c, e⟩ := own_slice_k h1.row
  subst e
  have k0 := h1.box.cell 0
  have k1 := h1.box.cell 1
  have k2 := h1.box.cell 2
  obtain ⟨i, l, g⟩ := b
  obtain ⟨n, hn⟩ : ∃ n, g.length = n := ⟨_, rfl⟩
  simp only [Bd.last, hn] at hl
  simp only [hn, List.getElem?_toArray, List.getElem?_cons_zero, List.getElem?_cons_succ] at k0 k1 k2
  have e1 : IntKind.i64.wrap ((i : Int) + (l : Int)) = (i : Int) + (l : Int) := by simp [IntKind.wrap, IntKind.bits, IntKind.signed]; omega
  have e2 : IntKind.i64.wrap ((i : Int) + (l : Int) + (n : Int)) = (i : Int) + (l : Int) + (n : Int) := by simp [IntKind.wrap, IntKind.bits, IntKind.signed]; omega
  have HN := Lib.hid hn
  have HB0 : Hid (Below w.heap.size w w.drew) := Lib.hid (Below.refl _ _).drew
  clear h1 hn hl
  go_enter Try.func88, Try.ntmps88
  go_upto_region 1 with (fail)
  go_region
  go_wp2
  go_ret
  exact ⟨by unfold Bd.last; rw [HN.out]; push_cast; rfl, HB0.out⟩

theorem has_half {b : Bd} {x : Int} (h0 : 0 ≤ x) : b.has x = !decide ((b.last : Int) < x / 2) := by
  cases h : b.has x
  · have : ¬ (0 ≤ x ∧ x ≤ 2 * (b.last : Int) + 1) := fun q => by rw [has_iff.2 q] at h; cases h
    have : (b.last : Int) < x / 2 := by omega
    simp [this]
  · have := has_iff.1 h
    have : ¬ (b.last : Int) < x / 2 := by omega
    simp [this]
theorem has_neg0 {b : Bd} {x : Int} (h0 : x < 0) : b.has x = false := by
  cases h : b.has x
  · rfl
  · have := has_iff.1 h; omega

set_option maxHeartbeats 4000000 in
set_option maxRecDepth 100000 in
theorem has_any (w : World) (bx : Nat) (b : Bd) (F : Nat → Prop) (v : Value) (L : List Int) (h : HB w bx b F) (hv : RowE 1 encI w v L) (h64 : ∀ l ∈ L, I64 l) :
    Calls Try.prog 98 #[.pointer (some ⟨bx, 0, none⟩), v] w fun e w' => e = .returned (.bool (L.all b.has)) ∧ Below w.heap.size w w' := by
  obtain ⟨A, c, rfl, _, hm, hrun⟩ := hv
  have HRUN := Lib.hid hrun
  have H64 := Lib.hid h64
  have HLAST := Lib.hid (fun (wx : World) (hb : Below w.heap.size w wx) => last_any wx bx b F (h.below hb))
  obtain ⟨n, hn⟩ : ∃ n, L.length = n := ⟨_, rfl⟩
  obtain ⟨r, hr⟩ : ∃ r, L.all b.has = r := ⟨_, rfl⟩
  have hnm : n ≤ 9223372036854775807 := by unfold maxLen at hm; omega
  have hlast : b.last ≤ 16384 := h.ok.last
  rw [hn, hr]
  have HN := Lib.hid hn
  have HR := Lib.hid hr
  have HB0 : Hid (Below w.heap.size w w) := Lib.hid (Below.refl _ _)
  have HHF := Lib.hid (fun (x : Int) (h0 : 0 ≤ x) => has_half (b := b) h0)
  have HHN := Lib.hid (fun (x : Int) (h0 : x < 0) => has_neg0 (b := b) h0)
  obtain ⟨la, hla⟩ : ∃ la, b.last = la := ⟨_, rfl⟩
  rw [hla] at HLAST HHF hlast
  clear hrun h64 hn hr h hm hla
  go_enter Try.func98, Try.ntmps98
  go_wp2
  go_loopg [9] n (fun j iv wx => ∃ q : Nat, q ≤ n ∧ j = n - q ∧ iv = .int .i64 q ∧ Below w.heap.size w wx ∧ (L.take q).all b.has = true)
  case atStart => exact ⟨0, Nat.zero_le _, rfl, rfl, HB0.out, by simp⟩
  case round =>
    obtain ⟨q, hq, hgk, rfl, hbw, hall⟩ := hrel
    subst hgk
    clear HB0
    have HBW := Lib.hid hbw
    have HALL := Lib.hid hall
    by_cases hlt : q < n
    · obtain ⟨x, hx⟩ : ∃ x, L[q]? = some x := ⟨_, List.getElem?_eq_getElem (by rw [HN.out]; exact hlt)⟩
      obtain ⟨g, off, e, hb, hcell⟩ := HRUN.out q x hx
      subst e
      have k0 := (hbw.cell (p := ⟨g, off + (q * 1 + 0), none⟩) hb).trans (hcell 0 _ rfl)
      simp only [Nat.mul_one, Nat.add_zero] at k0
      obtain ⟨x1, x2⟩ := H64.out x (List.mem_of_getElem? hx)
      have htk : L.take (q + 1) = L.take q ++ [x] := by rw [List.take_add_one, hx]; rfl
      have HNO : Hid (b.has x = false → r = false) := Lib.hid (fun h9 => by
        rw [← HR.out, List.all_eq_false]
        exact ⟨x, List.mem_of_getElem? hx, by rw [h9]; decide⟩)
      have HYES : Hid (b.has x = true → (L.take (q + 1)).all b.has = true) := Lib.hid (fun h9 => by rw [htk, List.all_append, HALL.out]; simp [h9])
      have hqi : (q : Int) < (n : Int) := by omega
      have hqi0 : (0 : Int) ≤ (q : Int) := by omega
      clear hcell hx htk hall hbw
      by_cases hx0 : x < 0
      · have HF : Hid (r = false) := Lib.hid (HNO.out (HHN.out x hx0))
        go_wp2
        go_ret
        exact ⟨ret_bool HF.out.symm, HBW.out⟩
      · have hx0' : 0 ≤ x := by omega
        have hq2 := tdiv_nn (b := 2) hx0'
        have hq3 : 0 ≤ x / 2 := by omega
        have hqw : IntKind.i64.wrap (x / 2) = x / 2 := by simp [IntKind.wrap, IntKind.bits, IntKind.signed]; omega
        have HXB := Lib.hid (HHF.out x hx0')
        by_cases hxl : (la : Int) < x / 2
        · have HF : Hid (r = false) := Lib.hid (HNO.out (by rw [HXB.out]; simp [hxl]))
          go_wp2_with (go_at_call 88; refine (HLAST.out _ HBW.out).mono ?_; rintro e w2 ⟨rfl, hb2⟩; have HB2 := Lib.hid (bt HBW.out (Nat.le_refl _) hb2); clear hb2)
          go_ret
          exact ⟨ret_bool HF.out.symm, HB2.out⟩
        · have HY : Hid ((L.take (q + 1)).all b.has = true) := Lib.hid (HYES.out (by rw [HXB.out]; simp [hxl]))
          go_wp2_with (go_at_call 88; refine (HLAST.out _ HBW.out).mono ?_; rintro e w2 ⟨rfl, hb2⟩; have HB2 := Lib.hid (bt HBW.out (Nat.le_refl _) hb2); clear hb2)
          go_roundg (n - (q + 1))
          case measure => omega
          case rel => exact ⟨q + 1, by omega, rfl, by go_num, HB2.out, HY.out⟩
    · have HF : Hid (r = true) := Lib.hid (by rw [← HR.out]; have := hall; rwa [List.take_of_length_le (by rw [HN.out]; omega)] at this)
      have hqi : ¬ (q : Int) < (n : Int) := by omega
      clear hall hbw
      go_wp2
      go_ret
      exact ⟨ret_bool HF.out.symm, HBW.out⟩
end Go.Proofs.Ytilbgopdciiadaa

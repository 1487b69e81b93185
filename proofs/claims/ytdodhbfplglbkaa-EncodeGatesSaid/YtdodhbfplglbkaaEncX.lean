/- SpoilCnf: a formula that was handed out is written over: nothing but its own blocks turns. -/
import Derived.Test.YtdodhbfplglbkaaEncN
import Derived.Test.YtdodhbfplglbkaaConO
import Derived.Test.YtdodhbfplglbkaaSameD
namespace Go.Proofs.Ytdodhbfplglbkaa
open Go.RowKit

def fitL (C : Circ) (l : Int) : Int := if (checkR C).2 ≠ 0 then (checkR C).2 else if litK C l = true then 0 else 1
def litF (C : Circ) (l : Int) : Int := if fitL C l = 0 then litC l else 0
set_option maxHeartbeats 400000 in
set_option maxRecDepth 100000 in
theorem rForm_any (w : World) (l : Int) (h0 : 0 ≤ l) (h1 : l ≤ 1000000) :
    Calls Try.prog 50 #[.int .i64 l] w fun e w' => e = .returned (.int .i64 (litC l)) ∧ w' = w := by
  have hq := tdiv_nn (b := 2) h0
  have hm : l.tmod 2 = l % 2 := Int.tmod_eq_emod_of_nonneg h0
  have hw : IntKind.i64.wrap (l / 2) = l / 2 := i64_in (by omega)
  have hw1 : IntKind.i64.wrap (l / 2 + 1) = l / 2 + 1 := i64_in (by omega)
  have hw2 : IntKind.i64.wrap (-(l / 2 + 1)) = -(l / 2 + 1) := i64_in (by omega)
  by_cases h2 : l % 2 = 1
  · have e : litC l = -(l / 2 + 1) := if_pos h2
    rw [e]
    clear e
    go_enter Try.func50, Try.ntmps50
    go_wp2
    go_ret
    exact ⟨rfl, rfl⟩
  · have e : litC l = l / 2 + 1 := if_neg h2
    have h3 : l % 2 = 0 := by omega
    rw [e]
    clear e
    go_enter Try.func50, Try.ntmps50
    go_wp2
    go_ret
    exact ⟨rfl, rfl⟩

theorem blk_ownR {w : World} {g B n k : Nat} {t : TypeId} {cs : Array Value} (h : Blk w g t cs) (hB : B ≤ g) (hl : cs.size = n * k) (hm : n ≤ maxLen) : w.ownsRow B t k (.slice (some ⟨g, 0, none⟩) n n) n cs.toList := by
  refine ⟨by simpa using hl, .inr ⟨g, n, cs, rfl, hB, h, Nat.le_refl _, hm, hl, ?_⟩⟩
  rw [List.take_of_length_le (by simp [hl])]
/-- Clauses in a row of one's own, each in a row of its own. -/
structure DRow (w : World) (B : Nat) (v : Value) (us : List Value) (F : List (List Int)) : Prop where
  ul : us.length = F.length
  own : w.ownsRow B 81 1 v us.length us
  each : ∀ (i : Nat) (u : Value) (zs : List Int), us[i]? = some u → F[i]? = some zs → w.ownsRow B 3 1 u zs.length (zs.flatMap encI)
theorem DRow.below {w w' : World} {B : Nat} {v : Value} {us : List Value} {F : List (List Int)} (h : DRow w B v us F) (hb : Below w.heap.size w w') : DRow w' B v us F :=
  ⟨h.ul, own_below h.own hb, fun i u zs hu hz => own_below (h.each i u zs hu hz) hb⟩
theorem DRow.base {w : World} {B B' : Nat} {v : Value} {us : List Value} {F : List (List Int)} (h : DRow w B v us F) (hB : B' ≤ B) : DRow w B' v us F :=
  ⟨h.ul, own_le h.own hB, fun i u zs hu hz => own_le (h.each i u zs hu hz) hB⟩
theorem DRow.lists {w : World} {B : Nat} {v : Value} {us : List Value} {F : List (List Int)} (h : DRow w B v us F) : Lists w v F :=
  ⟨us, own_rowe lenV (by rw [flat_vals]; exact h.own), h.ul, fun i u zs hu hz => own_rowe lenI (h.each i u zs hu hz)⟩
theorem DRow.far {w w' : World} {B g : Nat} {t : TypeId} {cs : Array Value} {v : Value} {us : List Value} {F : List (List Int)} (h : DRow w B v us F) (hg : Blk w g t cs) (h1 : 81 ≠ t) (h2 : 3 ≠ t) (hk : ∀ k, k < w.heap.size → k ≠ g → w'.heap[k]? = w.heap[k]?) : DRow w' B v us F :=
  ⟨h.ul, own_of_block h.own fun k hv => hk k (h.own.lt k hv).2 (fun e => own_blk_ne h.own hg h1 (by rw [← e]; exact hv)),
    fun i u zs hu hz => own_of_block (h.each i u zs hu hz) fun k hv => hk k ((h.each i u zs hu hz).lt k hv).2 (fun e => own_blk_ne (h.each i u zs hu hz) hg h2 (by rw [← e]; exact hv))⟩
theorem DRow.app {w w1 w2 : World} {B : Nat} {v v2 : Value} {us us2 : List Value} {F F2 : List (List Int)} (h : DRow w B v us F) (hb : Below w.heap.size w w1) (hBw : B ≤ w.heap.size) (hl : us2.length = F2.length)
    (hu : ∀ (i : Nat) (u : Value) (zs : List Int), us2[i]? = some u → F2[i]? = some zs → w1.ownsRow w.heap.size 3 1 u zs.length (zs.flatMap encI)) (hg : w1.grownBy w2 v.ownBlock) (ho : w2.ownsRow B 81 1 v2 (us.length + us2.length) (us ++ us2)) : DRow w2 B v2 (us ++ us2) (F ++ F2) := by
  have hown1 := own_below h.own hb
  have keep : ∀ {u' : Value} {n : Nat} {ys : List Value}, w1.ownsRow B 3 1 u' n ys → w2.ownsRow B 3 1 u' n ys := fun hh =>
    own_of_block hh fun k hk => hg.block k (hh.lt k hk).2 (fun e => by
      rcases hown1.2 with ⟨hv, _⟩ | ⟨g, cap, cur, hv, _, hgg, _⟩
      · rw [hv] at e; cases e
      · rw [hv] at e
        have e2 : k = g := by simpa [Value.ownBlock] using e
        exact own_blk_ne hh hgg (by decide) (by rw [hk, e2]))
  have hul := h.ul
  refine ⟨by simp; omega, by simpa using ho, fun i u' zs' hu' hz' => ?_⟩
  by_cases hi : i < us.length
  · rw [List.getElem?_append_left hi] at hu'
    rw [List.getElem?_append_left (by omega)] at hz'
    exact keep (own_below (h.each i u' zs' hu' hz') hb)
  · rw [List.getElem?_append_right (by omega)] at hu'
    rw [List.getElem?_append_right (by omega), ← hul] at hz'
    exact keep (own_le (hu _ u' zs' hu' hz') hBw)

set_option maxHeartbeats 1000000 in
set_option maxRecDepth 100000 in
theorem rGate_any (w : World) (o l r : Int) (h1 : -1000000 ≤ o ∧ o ≤ 1000000) (h2 : -1000000 ≤ l ∧ l ≤ 1000000) (h3 : -1000000 ≤ r ∧ r ≤ 1000000) :
    Calls Try.prog 101 #[.int .i64 o, .int .i64 l, .int .i64 r] w fun e w' => Below w.heap.size w w' ∧ ∃ g a b c, e = .returned (.slice (some ⟨g, 0, none⟩) 3 3) ∧ Blk w' g 81 #[a, b, c] ∧ w'.ownsRow w.heap.size 3 1 a 2 ([-o, l].flatMap encI) ∧ w'.ownsRow w.heap.size 3 1 b 2 ([-o, r].flatMap encI) ∧ w'.ownsRow w.heap.size 3 1 c 3 ([o, -l, -r].flatMap encI) := by
  have w1 : IntKind.i64.wrap (-o) = -o := i64_in (by omega)
  have w2 : IntKind.i64.wrap (-l) = -l := i64_in (by omega)
  have w3 : IntKind.i64.wrap (-r) = -r := i64_in (by omega)
  go_enter Try.func101, Try.ntmps101
  go_wp2
  go_ret
  have b1 := Blk.new w 3 #[.int .i64 (-o), .int .i64 l]
  have b2 := Blk.new (w.alloc (.cells #[.int .i64 (-o), .int .i64 l] 3)) 3 #[.int .i64 (-o), .int .i64 r]
  have b3 := Blk.new ((w.alloc (.cells #[.int .i64 (-o), .int .i64 l] 3)).alloc (.cells #[.int .i64 (-o), .int .i64 r] 3)) 3 #[.int .i64 o, .int .i64 (-l), .int .i64 (-r)]
  have b4 := Blk.new (((w.alloc (.cells #[.int .i64 (-o), .int .i64 l] 3)).alloc (.cells #[.int .i64 (-o), .int .i64 r] 3)).alloc (.cells #[.int .i64 o, .int .i64 (-l), .int .i64 (-r)] 3)) 81 #[.slice (some ⟨w.heap.size, 0, none⟩) 2 2, .slice (some ⟨w.heap.size + 1, 0, none⟩) 2 2, .slice (some ⟨w.heap.size + 1 + 1, 0, none⟩) 3 3]
  simp only [World.size_alloc] at b2 b3 b4
  exact ⟨((((Below.refl _ _).alloc (Nat.le_refl _) _).alloc (by simp) _).alloc (by simp; omega) _).alloc (by simp; omega) _, _, _, _, _, rfl, b4,
    blk_ownR (((b1.alloc _).alloc _).alloc _) (Nat.le_refl _) rfl (by simp [maxLen]), blk_ownR ((b2.alloc _).alloc _) (by omega) rfl (by simp [maxLen]), blk_ownR (b3.alloc _) (by omega) rfl (by simp [maxLen])⟩

set_option maxHeartbeats 1000000 in
set_option maxRecDepth 100000 in
theorem eLit_any (w : World) (V : CV) (C : Circ) (l : Int) (h : C.In w V) (ok : C.Ok) :
    Calls Try.prog 13 #[V.val C.max, .int .i64 l] w fun e w' => e = .returned (.tuple #[.int .i64 (litF C l), .int .i64 (fitL C l)]) ∧ Below w.heap.size w w' := by
  obtain ⟨W0, hW0⟩ : ∃ W0, w.alloc (.cells (V.cells C.max) 29) = W0 := ⟨_, rfl⟩
  have HB0 : Hid (Below w.heap.size w W0) := Lib.hid (by rw [← hW0]; exact (Below.refl w.heap.size w).alloc (Nat.le_refl _) _)
  have HX0 : Hid (Blk W0 w.heap.size 29 (V.cells C.max)) := Lib.hid (by rw [← hW0]; exact Blk.new w _ _)
  have HCK := Lib.hid (Check_any W0 V C (h.below HB0.out) ok)
  have HW0 := Lib.hid hW0
  have HBX : Hid (W0.heap[w.heap.size]? = some (.cells (V.cells C.max) 29 (0, 0))) := Lib.hid HX0.out
  obtain ⟨a, r, hrr⟩ : ∃ a r, checkR C = (a, r) := ⟨_, _, rfl⟩
  have HRR : Hid ((checkR C).2 = r) := Lib.hid (by rw [hrr])
  rw [hrr] at HCK
  clear hW0 h ok
  by_cases h0 : r = 0
  · subst h0
    obtain ⟨m, hm⟩ : ∃ m : Nat, C.max = (m : Int) := ⟨C.max.toNat, by have := (right_of HRR.out).m0; omega⟩
    have hm1 : m ≤ 16384 := by have := (right_of HRR.out).m1; omega
    have hk : litK C l = (decide (0 ≤ l) && decide (l ≤ 2 * (m : Int) + 1)) := by unfold litK; rw [hm]
    rw [hm] at HX0 HBX HCK HW0 ⊢
    by_cases hl : 0 ≤ l ∧ l ≤ 2 * (m : Int) + 1
    · have e0 : fitL C l = 0 := by unfold fitL; rw [if_neg (by rw [HRR.out]; simp), if_pos (by rw [hk]; simp [hl])]
      have e1 : litF C l = litC l := if_pos e0
      have hkt : (decide (0 ≤ l) && decide (l ≤ 2 * (m : Int) + 1)) = true := by simp [hl]
      have HIL := Lib.hid (fun wx => isLiteralE_any wx V m (by omega) l)
      rw [hkt] at HIL
      have HLI := Lib.hid (fun wx => literal_any wx l hl.1 (by omega))
      rw [e0, e1]
      clear e0 e1 hk hkt hm hrr
      go_enter Try.func13, Try.ntmps13
      go_upto_region 1 with (fail)
      rw [HW0.out]
      go_wp2_with (first
        | (refine wpList_load_row rfl 29 (.tmp 2) rfl w.heap.size rfl 29 (V.cells m) (0, 0) _ HBX.out Try.underlying29 rfl (by kernel_rfl) ?_)
        | (go_at_call 44; refine HCK.out.mono ?_; rintro e w1 ⟨rfl, hb1⟩; have HB1 := Lib.hid hb1; have HBX1 : Hid (w1.heap[w.heap.size]? = some (.cells (V.cells m) 29 (0, 0))) := Lib.hid (HX0.out.below hb1 HX0.out.lt); clear hb1 HBX; have HBX := HBX1; clear HBX1)
        | (go_at_call 48; refine (HIL.out _).mono ?_; rintro e w2 ⟨hb2, rfl⟩; have HB2 := Lib.hid hb2; clear hb2)
        | (go_at_call 49; refine (HLI.out _).mono ?_; rintro e w3 ⟨rfl, rfl⟩))
      go_ret2
      exact ⟨rfl, bt (bt HB0.out (Nat.le_refl _) HB1.out) (Nat.le_refl _) HB2.out⟩
    · have hkf : (decide (0 ≤ l) && decide (l ≤ 2 * (m : Int) + 1)) = false := by
        rw [Bool.and_eq_false_iff, decide_eq_false_iff_not, decide_eq_false_iff_not]
        omega
      have e0 : fitL C l = 1 := by unfold fitL; rw [if_neg (by rw [HRR.out]; simp), if_neg (by rw [hk, hkf]; simp)]
      have e1 : litF C l = 0 := if_neg (by rw [e0]; decide)
      have HIL := Lib.hid (fun wx => isLiteralE_any wx V m (by omega) l)
      rw [hkf] at HIL
      rw [e0, e1]
      clear e0 e1 hk hkf hm hrr hl
      go_enter Try.func13, Try.ntmps13
      go_upto_region 1 with (fail)
      rw [HW0.out]
      go_wp2_with (first
        | (refine wpList_load_row rfl 29 (.tmp 2) rfl w.heap.size rfl 29 (V.cells m) (0, 0) _ HBX.out Try.underlying29 rfl (by kernel_rfl) ?_)
        | (go_at_call 44; refine HCK.out.mono ?_; rintro e w1 ⟨rfl, hb1⟩; have HB1 := Lib.hid hb1; have HBX1 : Hid (w1.heap[w.heap.size]? = some (.cells (V.cells m) 29 (0, 0))) := Lib.hid (HX0.out.below hb1 HX0.out.lt); clear hb1 HBX; have HBX := HBX1; clear HBX1)
        | (go_at_call 48; refine (HIL.out _).mono ?_; rintro e w2 ⟨hb2, rfl⟩; have HB2 := Lib.hid hb2; clear hb2))
      go_ret2
      exact ⟨rfl, bt (bt HB0.out (Nat.le_refl _) HB1.out) (Nat.le_refl _) HB2.out⟩
  · have hq : (r != 0) = true := by simpa using h0
    have e0 : fitL C l = r := by unfold fitL; rw [if_pos (by rw [HRR.out]; exact h0)]; exact HRR.out
    have e1 : litF C l = 0 := if_neg (by rw [e0]; exact h0)
    rw [e0, e1]
    clear e0 e1 hrr h0
    go_enter Try.func13, Try.ntmps13
    go_upto_region 1 with (fail)
    rw [HW0.out]
    go_wp2_with (first
      | (refine wpList_load_row rfl 29 (.tmp 2) rfl w.heap.size rfl 29 (V.cells C.max) (0, 0) _ HBX.out Try.underlying29 rfl (by kernel_rfl) ?_)
      | (go_at_call 44; refine HCK.out.mono ?_; rintro e w1 ⟨rfl, hb1⟩; have HB1 := Lib.hid hb1; clear hb1))
    go_ret2
    exact ⟨rfl, bt HB0.out (Nat.le_refl _) HB1.out⟩

theorem threeR {w : World} {B : Nat} {a b c : Value} {x y z : List Int} (h1 : w.ownsRow B 3 1 a x.length (x.flatMap encI)) (h2 : w.ownsRow B 3 1 b y.length (y.flatMap encI)) (h3 : w.ownsRow B 3 1 c z.length (z.flatMap encI)) :
    ∀ (i : Nat) (u : Value) (zs : List Int), [a, b, c][i]? = some u → [x, y, z][i]? = some zs → w.ownsRow B 3 1 u zs.length (zs.flatMap encI) := fun i u zs hu hz => by
  match i, hu, hz with
  | 0, hu, hz => injection hu with hu; injection hz with hz; subst hu hz; exact h1
  | 1, hu, hz => injection hu with hu; injection hz with hz; subst hu hz; exact h2
  | 2, hu, hz => injection hu with hu; injection hz with hz; subst hu hz; exact h3
  | i + 3, hu, _ => simp at hu
def keepP (A : List Bool) (z : Tri) : Bool := A.getD (vOf z.1) false
theorem reads_blkR {w : World} {g : Nat} {t : TypeId} {a b c : Value} (h : Blk w g t #[a, b, c]) : Reads w w.heap.size 1 (some ⟨g, 0, none⟩) 3 [a, b, c] := by
  refine ⟨rfl, fun _ => ⟨_, rfl, h.lt, fun j u hu => ?_⟩⟩
  rw [add_none, Nat.zero_add, cell_of_row _ _ _ #[a, b, c] t (0, 0) h]
  simpa using hu
set_option maxHeartbeats 20000000 in
set_option maxRecDepth 100000 in
theorem rSome_any (w : World) (V : CV) (m : Nat) (zs : List Tri) (A : List Bool) (iv : Value) (hm1 : m ≤ 16384) (hg : RowE 3 encT w V.a zs) (hn : zs.length ≤ 16384)
    (hz : ∀ z ∈ zs, (0 ≤ z.1 ∧ z.1 / 2 ≤ (m : Int)) ∧ (0 ≤ z.2.1 ∧ z.2.1 / 2 ≤ (m : Int)) ∧ 0 ≤ z.2.2 ∧ z.2.2 / 2 ≤ (m : Int)) (hi : RowE 1 encO w iv A) (hA : A.length = m + 1) :
    Calls Try.prog 47 #[V.val m, iv] w fun e w' => Below w.heap.size w w' ∧ ∃ v us, e = .returned (.agg #[.int .i64 ((m : Int) + 1), v]) ∧ DRow w' w.heap.size v us (formC (zs.filter (keepP A))) := by
  obtain ⟨AA, ca, ea, _, _, rA⟩ := hg
  obtain ⟨nA, hnA⟩ : ∃ n, zs.length = n := ⟨_, rfl⟩
  rw [hnA] at ea hn
  obtain ⟨IA, ic, ei, _, _, rI⟩ := hi
  rw [hA] at ei
  obtain ⟨Vi, Vl, Vo, Vb, Vc, Vj, Vf, Va, Vs, Vt⟩ := V
  simp only at ea
  subst ea ei
  have HRA := Lib.hid rA
  have HRI := Lib.hid rI
  have HZ := Lib.hid hz
  have HNA := Lib.hid hnA
  have HAL := Lib.hid hA
  have hw1 : IntKind.i64.wrap ((m : Int) + 1) = (m : Int) + 1 := i64_in (by omega)
  obtain ⟨i0, hi0, hz0, hz1, hz2⟩ := info_of2 infoCl
  have HI0 := Lib.hid (And.intro hi0 (And.intro hz0 (And.intro hz1 hz2)))
  obtain ⟨W1, hW1⟩ : ∃ W1, ((((w.alloc (.cells #[.int .i64 m, Vi, Vl, Vo, Vb, Vc, Vj, Vf, .slice AA nA ca, Vs, Vt] 29)).alloc (.cells #[.int .i64 0, .slice none 0 0] 34)).alloc (.cells #[.int .i64 (-1)] 3)).alloc (.cells #[.slice (some ⟨w.heap.size + 2, 0, none⟩) 1 1] 81)).alloc (.cells #[.int .i64 ((m : Int) + 1), .slice (some ⟨w.heap.size + 3, 0, none⟩) 1 1] 34) = W1 := ⟨_, rfl⟩
  clear rA rI hz hnA hA hi0 hz0 hz1 hz2
  go_enter Try.func47, Try.ntmps47
  go_upto_region 2 with (fail)
  obtain ⟨fr, hfr⟩ : ∃ x, w.heap.size + 1 + 1 + 1 + 1 = x := ⟨_, rfl⟩
  have hx0 : Blk W1 w.heap.size 29 #[.int .i64 m, Vi, Vl, Vo, Vb, Vc, Vj, Vf, .slice AA nA ca, Vs, Vt] := by rw [← hW1]; exact ((((Blk.new w _ _).alloc _).alloc _).alloc _).alloc _
  have ht0 : Blk W1 (w.heap.size + 1) 34 #[.int .i64 0, .slice none 0 0] := by
    rw [← hW1]
    refine Blk.alloc (Blk.alloc (Blk.alloc ?_ _) _) _
    have := Blk.new (w.alloc (.cells #[.int .i64 m, Vi, Vl, Vo, Vb, Vc, Vj, Vf, .slice AA nA ca, Vs, Vt] 29)) 34 #[.int .i64 0, .slice none 0 0]
    simpa using this
  have HX0 := Lib.hid hx0
  have HT0 := Lib.hid ht0
  have HB0 : Hid (Below w.heap.size w W1) := Lib.hid (by rw [← hW1]; exact (((((Below.refl _ _).alloc (Nat.le_refl _) _).alloc (by simp) _).alloc (by simp; omega) _).alloc (by simp; omega) _).alloc (by simp; omega) _)
  have HS0 : Hid (W1.heap.size = w.heap.size + 5) := Lib.hid (by rw [← hW1]; simp)
  have HF0 : Hid (Blk W1 fr 34 #[.int .i64 ((m : Int) + 1), .slice (some ⟨w.heap.size + 3, 0, none⟩) 1 1]) := Lib.hid (by
    rw [← hW1, ← hfr]
    have := Blk.new ((((w.alloc (.cells #[.int .i64 m, Vi, Vl, Vo, Vb, Vc, Vj, Vf, .slice AA nA ca, Vs, Vt] 29)).alloc (.cells #[.int .i64 0, .slice none 0 0] 34)).alloc (.cells #[.int .i64 (-1)] 3)).alloc (.cells #[.slice (some ⟨w.heap.size + 2, 0, none⟩) 1 1] 81)) 34 #[.int .i64 ((m : Int) + 1), .slice (some ⟨w.heap.size + 3, 0, none⟩) 1 1]
    simpa using this)
  have HD0 : Hid (DRow W1 (w.heap.size + 2) (.slice (some ⟨w.heap.size + 3, 0, none⟩) 1 1) [.slice (some ⟨w.heap.size + 2, 0, none⟩) 1 1] (formC ((zs.take 0).filter (keepP A)))) := Lib.hid (by
    have hc : Blk W1 (w.heap.size + 3) 81 #[.slice (some ⟨w.heap.size + 2, 0, none⟩) 1 1] := by
      rw [← hW1]
      refine Blk.alloc ?_ _
      have := Blk.new (((w.alloc (.cells #[.int .i64 m, Vi, Vl, Vo, Vb, Vc, Vj, Vf, .slice AA nA ca, Vs, Vt] 29)).alloc (.cells #[.int .i64 0, .slice none 0 0] 34)).alloc (.cells #[.int .i64 (-1)] 3)) 81 #[.slice (some ⟨w.heap.size + 2, 0, none⟩) 1 1]
      simpa using this
    have hd : Blk W1 (w.heap.size + 2) 3 #[.int .i64 (-1)] := by
      rw [← hW1]
      refine Blk.alloc (Blk.alloc ?_ _) _
      have := Blk.new ((w.alloc (.cells #[.int .i64 m, Vi, Vl, Vo, Vb, Vc, Vj, Vf, .slice AA nA ca, Vs, Vt] 29)).alloc (.cells #[.int .i64 0, .slice none 0 0] 34)) 3 #[.int .i64 (-1)]
      simpa using this
    refine ⟨rfl, blk_ownR hc (by omega) rfl (by simp [maxLen]), fun i u ys hu hz => ?_⟩
    match i, hu, hz with
    | 0, hu, hz =>
      injection hu with hu
      injection hz with hz
      subst hu hz
      exact blk_ownR hd (by omega) rfl (by simp [maxLen])
    | i + 1, hu, _ => simp at hu)
  have HBW0 : Hid (Below (w.heap.size + 2) W1 W1) := Lib.hid (Below.refl _ _)
  rw [hfr]
  have HFR := Lib.hid hfr
  clear hx0 ht0 hW1 hfr
  go_wp2
  go_loopg [6] nA (fun kk i wx => ∃ (q : Nat) (v : Value) (us : List Value), q ≤ nA ∧ kk = nA - q ∧ i = .int .i64 q ∧ Blk wx fr 34 #[.int .i64 ((m : Int) + 1), v] ∧ DRow wx (w.heap.size + 2) v us (formC ((zs.take q).filter (keepP A))) ∧ Below (w.heap.size + 2) W1 wx)
  case atStart => exact ⟨0, _, _, Nat.zero_le _, rfl, rfl, HF0.out, HD0.out, HBW0.out⟩
  case round =>
    obtain ⟨q, v, us, hq, hgk, rfl, hfb, hdr, hbw⟩ := hrel
    subst hgk
    obtain ⟨UA, uc, hue⟩ := own_slice_k hdr.own
    subst hue
    obtain ⟨k, hk⟩ : ∃ k, us.length = k := ⟨_, rfl⟩
    rw [hk] at hfb hdr
    have HK := Lib.hid hk
    have HFB := Lib.hid hfb
    have HDR := Lib.hid hdr
    have HBW := Lib.hid hbw
    have HXW : Hid (Blk wr w.heap.size 29 #[.int .i64 m, Vi, Vl, Vo, Vb, Vc, Vj, Vf, .slice AA nA ca, Vs, Vt]) := Lib.hid ((hbw.block w.heap.size (by omega)).trans HX0.out)
    have HTW : Hid (Blk wr (w.heap.size + 1) 34 #[.int .i64 0, .slice none 0 0]) := Lib.hid ((hbw.block (w.heap.size + 1) (by omega)).trans HT0.out)
    have HBA : Hid (Below w.heap.size w wr) := Lib.hid (HB0.out.trans (hbw.mono (by omega)))
    obtain ⟨c0, c1, c2, c3, c4, c5, c6, c7, c8, c9, c10⟩ := rbox_of HXW.out
    clear hfb hdr hbw hk HF0 HD0 HBW0
    by_cases hlt : q < nA
    · obtain ⟨z, hz⟩ : ∃ z, zs[q]? = some z := ⟨_, List.getElem?_eq_getElem (by rw [HNA.out]; exact hlt)⟩
      have HTK : Hid ((zs.take (q + 1)).filter (keepP A) = (zs.take q).filter (keepP A) ++ (if keepP A z = true then [z] else [])) := Lib.hid (by rw [List.take_add_one, hz, List.filter_append]; simp [List.filter_cons])
      have hzr := HZ.out z (List.mem_of_getElem? hz)
      obtain ⟨b, off, e, hb, hcell⟩ := HRA.out q z hz
      subst e
      obtain ⟨z0, z1, z2⟩ := z
      obtain ⟨⟨hl0, hl1⟩, ⟨hl2, hl3⟩, hl4, hl5⟩ := hzr
      simp only at hl0 hl1 hl2 hl3 hl4 hl5
      have h0 := (HBA.out.cell (p := ⟨b, off + (q * 3 + 0), none⟩) hb).trans (hcell 0 _ rfl)
      have h1 := (HBA.out.cell (p := ⟨b, off + (q * 3 + 1), none⟩) hb).trans (hcell 1 _ rfl)
      have h2 := (HBA.out.cell (p := ⟨b, off + (q * 3 + 2), none⟩) hb).trans (hcell 2 _ rfl)
      simp only [Nat.add_zero, ← Nat.add_assoc] at h0 h1 h2
      obtain ⟨bit, hbit⟩ : ∃ x, A[(z0 / 2).toNat]? = some x := ⟨_, List.getElem?_eq_getElem (by rw [HAL.out]; omega)⟩
      have hkb : keepP A (z0, z1, z2) = bit := by unfold keepP vOf; rw [List.getD_eq_getElem?_getD, hbit]; rfl
      obtain ⟨b2, off2, e, hb2, hcell2⟩ := HRI.out _ bit hbit
      subst e
      have HBX : Hid (Below w.heap.size w (wr.alloc (.cells #[.int .i64 z0, .int .i64 z1, .int .i64 z2] 68))) := Lib.hid (HBA.out.alloc HBA.out.size _)
      have hti := (HBX.out.cell (p := ⟨b2, off2 + ((z0 / 2).toNat * 1 + 0), none⟩) hb2).trans (hcell2 0 _ rfl)
      simp only [Nat.mul_one, Nat.add_zero] at hti
      have hnb : Blk (wr.alloc (.cells #[.int .i64 z0, .int .i64 z1, .int .i64 z2] 68)) wr.heap.size 68 #[.int .i64 z0, .int .i64 z1, .int .i64 z2] := Blk.new wr _ _
      have HNB := Lib.hid hnb
      have y0 := hnb.cell 0
      have y1 := hnb.cell 1
      have y2 := hnb.cell 2
      simp only [List.getElem?_toArray, List.getElem?_cons_zero, List.getElem?_cons_succ] at y0 y1 y2
      have hq2 := tdiv_nn (b := 2) hl0
      have hq3 : 0 ≤ z0 / 2 := by omega
      have hq4 : z0 / 2 < (m : Int) + 1 := by omega
      have hq5 : z0 / 2 < ((m + 1 : Nat) : Int) := by push_cast; omega
      have hq8 : IntKind.i64.wrap (z0 / 2) = z0 / 2 := i64_in (by omega)
      have HFX : Hid (Blk (wr.alloc (.cells #[.int .i64 z0, .int .i64 z1, .int .i64 z2] 68)) fr 34 #[.int .i64 ((m : Int) + 1), .slice UA k uc]) := Lib.hid (HFB.out.alloc _)
      have HDX := Lib.hid (HDR.out.below ((Below.refl _ _).alloc (Nat.le_refl _) (.cells #[.int .i64 z0, .int .i64 z1, .int .i64 z2] 68)))
      have HWX : Hid (Below (w.heap.size + 2) W1 (wr.alloc (.cells #[.int .i64 z0, .int .i64 z1, .int .i64 z2] 68))) := Lib.hid (HBW.out.alloc (by have := HBW.out.size; have := HS0.out; omega) _)
      rw [hkb] at HTK
      clear hcell hcell2 hz hbit hkb hnb hb hb2
      cases bit
      · go_wp2
        go_roundg (nA - (q + 1))
        case measure => omega
        case rel => exact ⟨q + 1, _, us, by omega, rfl, by go_num, HFX.out, by rw [HTK.out]; simpa using HDX.out, HWX.out⟩
      · go_upto_region 7 with (fail)
        obtain ⟨wx, hwx⟩ : ∃ x, wr.alloc (.cells #[.int .i64 z0, .int .i64 z1, .int .i64 z2] 68) = x := ⟨_, rfl⟩
        obtain ⟨xb, hxb⟩ : ∃ x, wr.heap.size = x := ⟨_, rfl⟩
        rw [hwx] at HNB HFX HDX HWX HBX y0 y1 y2 hti
        rw [hxb] at HNB y0 y1 y2
        rw [hwx, hxb]
        have f1 := HFX.out.cell 1
        simp only [List.getElem?_toArray, List.getElem?_cons_zero, List.getElem?_cons_succ] at f1
        have HFA := Lib.hid (fun ww : World => rForm_any ww z0 hl0 (by omega))
        have HFBB := Lib.hid (fun ww : World => rForm_any ww z1 hl2 (by omega))
        have HFC := Lib.hid (fun ww : World => rForm_any ww z2 hl4 (by omega))
        have hlc : ∀ l : Int, 0 ≤ l → l / 2 ≤ (m : Int) → -1000000 ≤ litC l ∧ litC l ≤ 1000000 := fun l h1 h2 => by unfold litC; split <;> omega
        have HGA := Lib.hid (rGate_any wx.drew (litC z0) (litC z1) (litC z2) (hlc z0 hl0 hl1) (hlc z1 hl2 hl3) (hlc z2 hl4 hl5))
        have HSB : Hid (∀ w3, Below wx.drew.heap.size wx.drew w3 → Blk w3 fr 34 #[.int .i64 ((m : Int) + 1), .slice UA k uc] ∧ Blk w3 xb 68 #[.int .i64 z0, .int .i64 z1, .int .i64 z2]) := Lib.hid (fun w3 hb => ⟨HFX.out.drew.below hb HFX.out.drew.lt, HNB.out.drew.below hb HNB.out.drew.lt⟩)
        have HSC : Hid (∀ w3, (Blk w3 fr 34 #[.int .i64 ((m : Int) + 1), .slice UA k uc] ∧ Blk w3 xb 68 #[.int .i64 z0, .int .i64 z1, .int .i64 z2]) → w3.cell? ⟨fr, 1, none⟩ = some (.slice UA k uc) ∧ w3.cell? ⟨xb, 0, none⟩ = some (.int .i64 z0) ∧ w3.cell? ⟨xb, 1, none⟩ = some (.int .i64 z1) ∧ w3.cell? ⟨xb, 2, none⟩ = some (.int .i64 z2)) := Lib.hid (fun w3 h => ⟨by simpa using h.1.cell 1, by simpa using h.2.cell 0, by simpa using h.2.cell 1, by simpa using h.2.cell 2⟩)
        have HOW : Hid (∀ w3, Below wx.drew.heap.size wx.drew w3 → w3.ownsRow (w.heap.size + 2) 81 1 (.slice UA k uc) k us) := Lib.hid (fun w3 hb => by
          have := own_below HDX.out.own ((Below.refl wx.heap.size wx).drew.trans hb)
          rwa [HK.out] at this)
        have hk8 : k ≤ 100000 := by
          have h9 := HDR.out.ul
          rw [HK.out, formC_len] at h9
          have h8 : ((zs.take q).filter (keepP A)).length ≤ 16384 := Nat.le_trans (List.length_filter_le _ _) (by rw [List.length_take]; omega)
          omega
        have hbs : w.heap.size + 2 ≤ wx.heap.size := by have := HWX.out.size; have := HS0.out; omega
        have HBS := Lib.hid hbs
        clear hwx hxb f1 hti hbs hlc
        refine wp_region_T (by kernel_rfl) (fun w' => w'.cell? ⟨fr, 1, none⟩ = some (.slice UA k uc) ∧ w'.cell? ⟨xb, 0, none⟩ = some (.int .i64 z0) ∧ w'.cell? ⟨xb, 1, none⟩ = some (.int .i64 z1) ∧ w'.cell? ⟨xb, 2, none⟩ = some (.int .i64 z2)) 13 ?_
        have hHeld := HSC.out _ (HSB.out _ (Below.refl _ _))
        have HHE := Lib.hid hHeld
        refine wpAnyT_take (i := 0) (v := ?v0q1) rfl (by kernel_rfl) (fun _ _ _ h => h) (by rfl) hHeld ?h0q1 ?_
        case h0q1 => (intro w' hSw; (try dsimp only at hSw); go_simp; try with_reducible rfl)
        (try simp only [Act.put, List.setIfInBounds_toArray])
        refine wpAnyT_take (i := 1) (v := ?v1q2) rfl (by kernel_rfl) (fun _ _ _ h => h) (by rfl) hHeld ?h1q2 ?_
        case h1q2 => (intro w' hSw; (try dsimp only at hSw); go_simp; try with_reducible rfl)
        (try simp only [Act.put])
        refine wpAnyT_take (i := 2) (v := ?v2q3) rfl (by kernel_rfl) (fun _ _ _ h => h) (by rfl) hHeld ?h2q3 ?_
        case h2q3 => (intro w' hSw; (try dsimp only at hSw); go_simp; try with_reducible rfl)
        (try simp only [Act.put])
        refine wpAnyT_take (i := 3) (v := ?v3q4) rfl (by kernel_rfl) (fun _ _ _ h => h) (by rfl) hHeld ?h3q4 ?_
        case h3q4 => (intro w' hSw; (try dsimp only at hSw); go_simp; try with_reducible rfl)
        (try simp only [Act.put])
        refine wpAnyT_take (i := 5) (v := ?v5q5) rfl (by kernel_rfl) (fun _ _ _ h => h) (by rfl) hHeld ?h5q5 ?_
        case h5q5 => (intro w' hSw; (try dsimp only at hSw); go_simp; try with_reducible rfl)
        (try simp only [Act.put])
        refine wpAnyT_take (i := 6) (v := ?v6q6) rfl (by kernel_rfl) (fun _ _ _ h => h) (by rfl) hHeld ?h6q6 ?_
        case h6q6 => (intro w' hSw; (try dsimp only at hSw); go_simp; try with_reducible rfl)
        (try simp only [Act.put])
        refine wpAnyT_take (i := 8) (v := ?v8q7) rfl (by kernel_rfl) (fun _ _ _ h => h) (by rfl) hHeld ?h8q7 ?_
        case h8q7 => (intro w' hSw; (try dsimp only at hSw); go_simp; try with_reducible rfl)
        (try simp only [Act.put])
        refine wpAnyT_take (i := 9) (v := ?v9q8) rfl (by kernel_rfl) (fun _ _ _ h => h) (by rfl) hHeld ?h9q8 ?_
        case h9q8 => (intro w' hSw; (try dsimp only at hSw); go_simp; try with_reducible rfl)
        (try simp only [Act.put])
        clear hHeld
        refine wpAnyT_one (i := 4) rfl (by kernel_rfl) (fun K hK => ?_)
        go_simp
        go_at_call 50
        refine (HFA.out _).mono ?_
        rintro e w9 ⟨rfl, rfl⟩
        refine hK.out _ _ (fun _ => HHE.out) ?_
        clear hK K
        (try simp only [Act.put, List.setIfInBounds_toArray, List.set_cons_zero, List.set_cons_succ])
        refine wpAnyT_one (i := 7) rfl (by kernel_rfl) (fun K hK => ?_)
        go_simp
        go_at_call 50
        refine (HFBB.out _).mono ?_
        rintro e w9 ⟨rfl, rfl⟩
        refine hK.out _ _ (fun _ => HHE.out) ?_
        clear hK K
        (try simp only [Act.put, List.setIfInBounds_toArray, List.set_cons_zero, List.set_cons_succ])
        refine wpAnyT_one (i := 10) rfl (by kernel_rfl) (fun K hK => ?_)
        go_simp
        go_at_call 50
        refine (HFC.out _).mono ?_
        rintro e w9 ⟨rfl, rfl⟩
        refine hK.out _ _ (fun _ => HHE.out) ?_
        clear hK K
        (try simp only [Act.put, List.setIfInBounds_toArray, List.set_cons_zero, List.set_cons_succ])
        refine wpAnyT_one (i := 11) rfl (by kernel_rfl) (fun K hK => ?_)
        go_simp
        go_at_call 101
        refine HGA.out.mono ?_
        rintro e w3 ⟨hb3, gg, ga, gb, gc, rfl, hgb, hga, hgb2, hgc⟩
        obtain ⟨a1, a2, rfl⟩ := own_slice_k hga
        obtain ⟨a3, a4, rfl⟩ := own_slice_k hgb2
        obtain ⟨a5, a6, rfl⟩ := own_slice_k hgc
        have HB3 := Lib.hid hb3
        have HGB := Lib.hid hgb
        have HG1 := Lib.hid hga
        have HG2 := Lib.hid hgb2
        have HG3 := Lib.hid hgc
        clear hb3 hgb hga hgb2 hgc
        refine hK.out _ _ (fun _ => HSC.out _ (HSB.out w3 HB3.out)) ?_
        clear hK K
        (try simp only [Act.put, List.setIfInBounds_toArray, List.set_cons_zero, List.set_cons_succ])
        refine wpAnyT_one (i := 12) rfl (by kernel_rfl) (fun K hK => ?_)
        refine step_append_any _ rfl (.tmp 33) (.tmp 43) _ rfl (w.heap.size + 2) 81 i0 _ 1 24 Try.underlying32 HI0.out.1 HI0.out.2.1 HI0.out.2.2.1 HI0.out.2.2.2 rfl (by omega) (.slice UA k uc) k us (by first | rfl | (simp [Act.eval])) (HOW.out w3 HB3.out) w3.heap.size (some ⟨gg, 0, none⟩) 3 3 [.slice a1 2 a2, .slice a3 2 a4, .slice a5 3 a6] (by first | rfl | (simp [Act.eval])) (reads_blkR HGB.out) (by simp [Value.oneCell']) (by simp only [maxLen]; omega) (by omega) (Nat.le_trans HBS.out HB3.out.size) ?_
        intro v5 w5 hown hg _
        obtain ⟨A5, c5, hf5⟩ := own_slice_k hown
        subst hf5
        have HKB : Hid (Blk w5 fr 34 #[.int .i64 ((m : Int) + 1), .slice UA k uc] ∧ Blk w5 xb 68 #[.int .i64 z0, .int .i64 z1, .int .i64 z2]) := Lib.hid ⟨Blk.grown (HSB.out w3 HB3.out).1 hg (Ne.symm (own_blk_ne (HOW.out w3 HB3.out) (HSB.out w3 HB3.out).1 (by decide))), Blk.grown (HSB.out w3 HB3.out).2 hg (Ne.symm (own_blk_ne (HOW.out w3 HB3.out) (HSB.out w3 HB3.out).2 (by decide)))⟩
        have HO5 := Lib.hid hown
        have HG5 := Lib.hid hg
        clear hown hg
        have q5 := (HSC.out _ HKB.out).1
        have qf := HKB.out.1.frozen 1
        have ql := HKB.out.1.lt
        refine hK.out _ _ (fun _ => HSC.out _ HKB.out) ?_
        clear hK K
        (try simp only [Act.put, List.setIfInBounds_toArray])
        refine wpAnyT_one (i := 13) rfl (by kernel_rfl) (fun K hK => ?_)
        go_simp
        refine hK.out _ _ (fun h => absurd h (by decide)) ?_
        clear hK K
        (try simp only [Act.put, List.setIfInBounds_toArray, List.set_cons_zero, List.set_cons_succ])
        refine wpAnyT_one (i := 14) rfl (by kernel_rfl) (fun K hK => ?_)
        go_simp
        refine hK.out _ _ (fun h => absurd h (by decide)) ?_
        clear hK K
        (try simp only [Act.put, List.setIfInBounds_toArray, List.set_cons_zero, List.set_cons_succ])
        refine wpAnyT_done (by kernel_rfl) ?_
        go_wp2
        go_roundg (nA - (q + 1))
        case measure => omega
        case rel =>
          have hda := DRow.app (HDX.out.below (Below.refl wx.heap.size wx).drew) HB3.out HBS.out (us2 := [.slice a1 2 a2, .slice a3 2 a4, .slice a5 3 a6]) (F2 := [[-(litC z0), litC z1], [-(litC z0), litC z2], [litC z0, -(litC z1), -(litC z2)]]) rfl (threeR HG1.out HG2.out HG3.out) HG5.out (by rw [HK.out]; exact HO5.out)
          refine ⟨q + 1, .slice A5 (k + 3) c5, us ++ [.slice a1 2 a2, .slice a3 2 a4, .slice a5 3 a6], by omega, rfl, by go_num, ?_, ?_, ?_⟩
          · have := HKB.out.1.set_ 1 (.slice A5 (k + 3) c5)
            simpa using this
          · have h9 := hda.far HKB.out.1 (by decide) (by decide) (fun j _ hj => Below.heap_setCell w5 ⟨fr, 1, none⟩ (.slice A5 (k + 3) c5) j hj)
            rw [HTK.out, if_pos trivial, formC_snoc]
            exact h9
          · have h8 := (HWX.out.drew.trans (HB3.out.mono HBS.out)).grown HG5.out (Nat.le_trans HBS.out HB3.out.size) (fun j hj => ((HOW.out w3 HB3.out).lt j hj).1)
            exact h8.setCell (show w.heap.size + 2 ≤ fr by have := HFR.out; omega) _
    · have hqe : nA = q := by omega
      subst hqe
      have HE : Hid ((zs.take nA).filter (keepP A) = zs.filter (keepP A)) := Lib.hid (by rw [List.take_of_length_le (by rw [HNA.out]; exact Nat.le_refl _)])
      have f0 := HFB.out.cell 0
      have f1 := HFB.out.cell 1
      have t0 := HTW.out.cell 0
      have t1 := HTW.out.cell 1
      have tf0 := HTW.out.frozen 0
      have tf1 := HTW.out.frozen 1
      have tl := HTW.out.lt
      simp only [List.getElem?_toArray, List.getElem?_cons_zero, List.getElem?_cons_succ] at f0 f1 t0 t1
      clear hlt hq
      go_wp2
      have hw9 : Blk ((wr.setCell ⟨w.heap.size + 1, 0, none⟩ (.int .i64 ((m : Int) + 1))).setCell ⟨w.heap.size + 1, 1, none⟩ (.slice UA k uc)) (w.heap.size + 1) 34 #[.int .i64 ((m : Int) + 1), .slice UA k uc] := by
        have := (HTW.out.set_ 0 (.int .i64 ((m : Int) + 1))).set_ 1 (.slice UA k uc)
        simpa using this
      refine bodyPost_ret (results_cell_row (fn := Try.f47) (p := 4) rfl _ _ (w.heap.size + 1) 34 #[.int .i64 ((m : Int) + 1), .slice UA k uc] (0, 0) _ rfl hw9 Try.underlying34 rfl (by kernel_rfl)) rfl ?_
      exact ⟨(HBA.out.setCell (by simp) _).setCell (by simp) _, _, us, rfl, by rw [← HE.out]; exact (HDR.out.far HTW.out (by decide) (by decide) (fun k _ hk => (Below.heap_setCell _ _ _ _ hk).trans (Below.heap_setCell _ _ _ _ hk))).base (by omega)⟩
end Go.Proofs.Ytdodhbfplglbkaa

namespace Go.Proofs.Ytdodhbfplglbkaa
open Go.RowKit

set_option maxHeartbeats 4000000 in
set_option maxRecDepth 100000 in
theorem rGates_any (w : World) (V : CV) (C : Circ) (h : C.In w V) (ok : C.Ok) (htn : ∀ s ∈ C.comments, s.size ≤ maxLen) :
    Calls Try.prog 12 #[V.val C.max] w fun e w' => Below w.heap.size w w' ∧ ∃ v us, e = .returned (.tuple #[.agg #[.int .i64 (varsF C), v], .int .i64 (checkR C).2]) ∧ DRow w' w.heap.size v us (gatesF C) := by
  obtain ⟨W0, hW0⟩ : ∃ W0, (w.alloc (.cells (V.cells C.max) 29)).alloc (.cells #[.int .i64 0, .slice none 0 0] 34) = W0 := ⟨_, rfl⟩
  have HB0 : Hid (Below w.heap.size w W0) := Lib.hid (by rw [← hW0]; exact ((Below.refl w.heap.size w).alloc (Nat.le_refl _) _).alloc (by simp) _)
  have HX0 : Hid (Blk W0 w.heap.size 29 (V.cells C.max)) := Lib.hid (by rw [← hW0]; exact (Blk.new w _ _).alloc _)
  have H1 : Hid (Blk W0 (w.heap.size + 1) 34 #[.int .i64 0, .slice none 0 0]) := Lib.hid (by
    rw [← hW0]
    have := Blk.new (w.alloc (.cells (V.cells C.max) 29)) 34 #[.int .i64 0, .slice none 0 0]
    simpa using this)
  have HCK := Lib.hid (rCheck_any W0 V C (h.below HB0.out) ok htn)
  have HIN := Lib.hid (h.below HB0.out)
  have HW0 := Lib.hid hW0
  have HS0 : Hid (W0.heap.size = w.heap.size + 1 + 1) := Lib.hid (by rw [← hW0]; simp)
  obtain ⟨a, r, hrr⟩ : ∃ a r, checkR C = (a, r) := ⟨_, _, rfl⟩
  have HRR : Hid ((checkR C).2 = r) := Lib.hid (by rw [hrr])
  rw [hrr] at HCK
  have hbx : W0.heap[w.heap.size]? = some (.cells (V.cells C.max) 29 (0, 0)) := HX0.out
  have HBX := Lib.hid hbx
  clear hW0 h ok hbx htn
  by_cases h0 : r = 0
  · subst h0
    obtain ⟨m, hm⟩ : ∃ m : Nat, C.max = (m : Int) := ⟨C.max.toNat, by have := (right_of HRR.out).m0; omega⟩
    have hm1 : m ≤ 16384 := by have := (right_of HRR.out).m1; omega
    have HZ := Lib.hid (gates_in HRR.out hm)
    have HNA := Lib.hid (right_of HRR.out).na
    have e1 : gatesF C = formC C.ands := if_pos HRR.out
    have e2 : varsF C = (m : Int) + 1 := by unfold varsF; rw [if_pos HRR.out, hm]
    rw [hrr, e1, e2]
    rw [hm] at HX0 HBX HCK HW0 ⊢
    have hmk := make_bools (m + 1) (by omega)
    have hmc : ((m + 1 : Nat) : Int) = (m : Int) + 1 := by push_cast; rfl
    rw [hmc] at hmk
    have hmw : IntKind.i64.wrap ((m : Int) + 1) = (m : Int) + 1 := i64_in (by omega)
    clear e1 e2 hm hrr hmc
    go_enter Try.func12, Try.ntmps12
    go_upto_region 1 with (fail)
    rw [HW0.out]
    go_upto_region 4 with (first
      | (refine wpList_load_row rfl 29 (.tmp 1) rfl w.heap.size rfl 29 (V.cells m) (0, 0) _ HBX.out Try.underlying29 rfl (by kernel_rfl) ?_)
      | (go_at_call 46; refine HCK.out.mono ?_; rintro e w1 ⟨rfl, hb1⟩; have HB1 := Lib.hid hb1; clear hb1))
    have HX1 := Lib.hid (HX0.out.below HB1.out HX0.out.lt)
    have HR1 := Lib.hid (H1.out.below HB1.out H1.out.lt)
    have c0 := HX1.out.cell 0
    simp only [CV.cells, List.getElem?_toArray, List.getElem?_cons_zero] at c0
    go_upto_region 5 with (fail)
    obtain ⟨g, hg⟩ : ∃ g, w1.heap.size = g := ⟨_, rfl⟩
    obtain ⟨W2, hW2⟩ : ∃ W2, w1.alloc (.cells (madeCells #[Value.bool false] (m + 1)) 4) = W2 := ⟨_, rfl⟩
    have HT2 : Hid (Tab W2 g (List.replicate (m + 1) false)) := Lib.hid (by
      rw [← hW2, ← hg]
      unfold Tab
      rw [← made_bools]
      exact Blk.new _ _ _)
    have HX2 : Hid (Blk W2 w.heap.size 29 (V.cells m)) := Lib.hid (by rw [← hW2]; exact HX1.out.alloc _)
    have HR2 : Hid (Blk W2 (w.heap.size + 1) 34 #[.int .i64 0, .slice none 0 0]) := Lib.hid (by rw [← hW2]; exact HR1.out.alloc _)
    have HB2 : Hid (Below W0.heap.size W0 W2) := Lib.hid (by rw [← hW2]; exact HB1.out.alloc HB1.out.size _)
    have HGW : Hid (w.heap.size + 2 ≤ g ∧ W0.heap.size ≤ g) := Lib.hid (by rw [← hg]; have := HB1.out.size; have := HS0.out; omega)
    rw [hW2, hg]
    clear hg hW2 c0 hmk
    have HK2 : Hid (KB (g + 1) g W2 W2) := Lib.hid (KB.refl _ _ _)
    go_wp2
    go_loopg [7] (m + 1) (fun k i wx => ∃ (q : Nat) (A : List Bool), q ≤ m + 1 ∧ k = m + 1 - q ∧ i = .int .i64 q ∧ Tab wx g A ∧ A.length = m + 1 ∧ (∀ j, j < q → A.getD j false = true) ∧ KB (g + 1) g W2 wx)
    case atStart => exact ⟨0, _, Nat.zero_le _, rfl, rfl, HT2.out, by simp, fun j hj => by omega, HK2.out⟩
    case round =>
      obtain ⟨q, A, hq, hgk, rfl, hta, hal, htr, hkb⟩ := hrel
      subst hgk
      have HTA := Lib.hid hta
      have HAL := Lib.hid hal
      have HTR := Lib.hid htr
      have HK := Lib.hid hkb
      have HXW : Hid (Blk wr w.heap.size 29 (V.cells m)) := Lib.hid (KB.box HX2.out hkb (by have := HGW.out; omega) (by have := HGW.out; omega))
      have HRW : Hid (Blk wr (w.heap.size + 1) 34 #[.int .i64 0, .slice none 0 0]) := Lib.hid (KB.box HR2.out hkb (by have := HGW.out; omega) (by have := HGW.out; omega))
      have c0 := HXW.out.cell 0
      simp only [CV.cells, List.getElem?_toArray, List.getElem?_cons_zero] at c0
      clear hta hal htr hkb HT2 HK2
      by_cases hlt : q < m + 1
      · have hle : (q : Int) ≤ (m : Int) := by omega
        have hlt2 : (q : Int) < ((m + 1 : Nat) : Int) := by push_cast; omega
        have hold := HTA.out.cell (getD_bool (show q < A.length by rw [HAL.out]; exact hlt))
        have hfr := Blk.frozen HTA.out q
        have hgb := Blk.lt HTA.out
        have HREL : Hid (Tab (wr.setCell ⟨g, q, none⟩ (.bool true)) g (A.set q true) ∧ (A.set q true).length = m + 1 ∧ (∀ j, j < q + 1 → (A.set q true).getD j false = true) ∧ KB (g + 1) g W2 (wr.setCell ⟨g, q, none⟩ (.bool true))) := Lib.hid (by
          refine ⟨HTA.out.set_ _ _, by rw [List.length_set]; exact HAL.out, fun j hj => ?_, HK.out.set_ _ _⟩
          refine (setB_get (by rw [HAL.out]; exact hlt) _).2 ?_
          by_cases hjq : j = q
          · exact .inr hjq
          · exact .inl (HTR.out j (by omega)))
        go_wp2
        go_roundg (m + 1 - (q + 1))
        case measure => omega
        case rel => exact ⟨q + 1, _, by omega, rfl, by go_num, HREL.out.1, HREL.out.2.1, HREL.out.2.2.1, HREL.out.2.2.2⟩
      · have hqe : m + 1 = q := by omega
        have hle : ¬ (q : Int) ≤ (m : Int) := by omega
        have hbw : Below W0.heap.size W0 wr := KB.below HB2.out HK.out (by have := HGW.out; omega) HGW.out.2
        have HBW := Lib.hid hbw
        have hfil : C.ands.filter (keepP A) = C.ands := List.filter_eq_self.2 (fun z hz => HTR.out _ (by have := (HZ.out z hz).1; unfold vOf; omega))
        have hrow : RowE 1 encO wr (.slice (some ⟨g, 0, none⟩) (m + 1) (m + 1)) A := by
          have := tabT_row HTA.out (by rw [HAL.out]; simp only [maxLen]; omega)
          rwa [HAL.out] at this
        have hso := rSome_any wr V m C.ands A (.slice (some ⟨g, 0, none⟩) (m + 1) (m + 1)) hm1 ((HIN.out.below hbw).a) HNA.out HZ.out hrow HAL.out
        rw [hfil] at hso
        have HSO := Lib.hid hso
        have HBXW : Hid (wr.heap[w.heap.size]? = some (.cells (V.cells m) 29 (0, 0))) := Lib.hid HXW.out
        clear hso hrow hfil hbw hlt hq hqe
        go_wp2_with (first
          | (refine wpList_load_row rfl 29 (.tmp 1) rfl w.heap.size rfl 29 (V.cells m) (0, 0) _ HBXW.out Try.underlying29 rfl (by kernel_rfl) ?_)
          | (go_at_call 47; refine HSO.out.mono ?_; rintro e w4 ⟨hb4, v, us, rfl, hl4⟩; obtain ⟨vA, vc, hve⟩ := own_slice_k hl4.own; subst hve; have HB4 := Lib.hid hb4; have HL4 := Lib.hid hl4; have HR4 := Lib.hid (HRW.out.below hb4 HRW.out.lt); have r0 := HR4.out.cell 0; have r1 := HR4.out.cell 1; have rf0 := HR4.out.frozen 0; have rf1 := HR4.out.frozen 1; have rl := HR4.out.lt; simp only [List.getElem?_toArray, List.getElem?_cons_zero, List.getElem?_cons_succ] at r0 r1; clear hb4 hl4))
        have hw9 : Blk ((w4.setCell ⟨w.heap.size + 1, 0, none⟩ (.int .i64 ((m : Int) + 1))).setCell ⟨w.heap.size + 1, 1, none⟩ (.slice vA us.length vc)) (w.heap.size + 1) 34 #[.int .i64 ((m : Int) + 1), .slice vA us.length vc] := by
          have := (HR4.out.set_ 0 (.int .i64 ((m : Int) + 1))).set_ 1 (.slice vA us.length vc)
          simpa using this
        refine bodyPost_ret (results_cell_oneE (fn := Try.f12) (p := 2) (q := 3) rfl _ _ (w.heap.size + 1) 34 #[.int .i64 ((m : Int) + 1), .slice vA us.length vc] (0, 0) _ rfl hw9 Try.underlying34 rfl (by kernel_rfl) (.int .i64 0) rfl) rfl ?_
        have hbw := bt (bt HB0.out (Nat.le_refl _) HBW.out) (Nat.le_refl _) HB4.out
        exact ⟨(hbw.setCell (by simp) _).setCell (by simp) _, _, us, rfl, (HL4.out.far HR4.out (by decide) (by decide) (fun k _ hk => (Below.heap_setCell _ _ _ _ hk).trans (Below.heap_setCell _ _ _ _ hk))).base (by have := HB0.out.size; have := HBW.out.size; omega)⟩
  · have hq : (r != 0) = true := by simpa using h0
    have e1 : gatesF C = [] := if_neg (by rw [HRR.out]; exact h0)
    have e2 : varsF C = 0 := if_neg (by rw [HRR.out]; exact h0)
    rw [hrr, e1, e2]
    clear e1 e2 hrr h0
    go_enter Try.func12, Try.ntmps12
    go_upto_region 1 with (fail)
    rw [HW0.out]
    go_wp2_with (first
      | (refine wpList_load_row rfl 29 (.tmp 1) rfl w.heap.size rfl 29 (V.cells C.max) (0, 0) _ HBX.out Try.underlying29 rfl (by kernel_rfl) ?_)
      | (go_at_call 46; refine HCK.out.mono ?_; rintro e w1 ⟨rfl, hb1⟩; have HB1 := Lib.hid hb1; have HR1 := Lib.hid (H1.out.below hb1 H1.out.lt); have r0 := HR1.out.cell 0; have r1 := HR1.out.cell 1; have rf0 := HR1.out.frozen 0; have rf1 := HR1.out.frozen 1; have rl := HR1.out.lt; simp only [List.getElem?_toArray, List.getElem?_cons_zero, List.getElem?_cons_succ] at r0 r1; clear hb1))
    have hw9 : Blk ((w1.setCell ⟨w.heap.size + 1, 0, none⟩ (.int .i64 0)).setCell ⟨w.heap.size + 1, 1, none⟩ (.slice none 0 0)) (w.heap.size + 1) 34 #[.int .i64 0, .slice none 0 0] := by
      have := (HR1.out.set_ 0 (.int .i64 0)).set_ 1 (.slice none 0 0)
      simpa using this
    refine bodyPost_ret (results_cell_oneE (fn := Try.f12) (p := 2) (q := 3) rfl _ _ (w.heap.size + 1) 34 #[.int .i64 0, .slice none 0 0] (0, 0) _ rfl hw9 Try.underlying34 rfl (by kernel_rfl) (.int .i64 r) rfl) rfl ?_
    exact ⟨((bt HB0.out (Nat.le_refl _) HB1.out).setCell (by simp) _).setCell (by simp) _, _, [], rfl, ⟨rfl, World.ownsRow_nil _ _ _ _, fun i u zs hu _ => by simp at hu⟩⟩
set_option maxHeartbeats 1000000 in
set_option maxRecDepth 100000 in
theorem rLit_any (w : World) (V : CV) (C : Circ) (l : Int) (h : C.In w V) (ok : C.Ok) (htn : ∀ s ∈ C.comments, s.size ≤ maxLen) :
    Calls Try.prog 14 #[V.val C.max, .int .i64 l] w fun e w' => e = .returned (.tuple #[.int .i64 (litF C l), .int .i64 (fitL C l)]) ∧ Below w.heap.size w w' := by
  obtain ⟨W0, hW0⟩ : ∃ W0, w.alloc (.cells (V.cells C.max) 29) = W0 := ⟨_, rfl⟩
  have HB0 : Hid (Below w.heap.size w W0) := Lib.hid (by rw [← hW0]; exact (Below.refl w.heap.size w).alloc (Nat.le_refl _) _)
  have HX0 : Hid (Blk W0 w.heap.size 29 (V.cells C.max)) := Lib.hid (by rw [← hW0]; exact Blk.new w _ _)
  have HCK := Lib.hid (rCheck_any W0 V C (h.below HB0.out) ok htn)
  have HW0 := Lib.hid hW0
  have HBX : Hid (W0.heap[w.heap.size]? = some (.cells (V.cells C.max) 29 (0, 0))) := Lib.hid HX0.out
  obtain ⟨a, r, hrr⟩ : ∃ a r, checkR C = (a, r) := ⟨_, _, rfl⟩
  have HRR : Hid ((checkR C).2 = r) := Lib.hid (by rw [hrr])
  rw [hrr] at HCK
  clear hW0 h ok htn
  by_cases h0 : r = 0
  · subst h0
    obtain ⟨m, hm⟩ : ∃ m : Nat, C.max = (m : Int) := ⟨C.max.toNat, by have := (right_of HRR.out).m0; omega⟩
    have hm1 : m ≤ 16384 := by have := (right_of HRR.out).m1; omega
    have hk : litK C l = (decide (0 ≤ l) && decide (l ≤ 2 * (m : Int) + 1)) := by unfold litK; rw [hm]
    have hw1 : IntKind.i64.wrap (2 * (m : Int)) = 2 * (m : Int) := i64_in (by omega)
    have hw2 : IntKind.i64.wrap (2 * (m : Int) + 1) = 2 * (m : Int) + 1 := i64_in (by omega)
    rw [hm] at HX0 HBX HCK HW0 ⊢
    by_cases hl0 : 0 ≤ l
    · have hn0 : ¬ l < 0 := by omega
      by_cases hl1 : l ≤ 2 * (m : Int) + 1
      · have e0 : fitL C l = 0 := by unfold fitL; rw [if_neg (by rw [HRR.out]; simp), if_pos (by rw [hk]; simp [hl0, hl1])]
        have e1 : litF C l = litC l := if_pos e0
        have HLI := Lib.hid (fun wx => rForm_any wx l hl0 (by omega))
        have hn1 : ¬ 2 * (m : Int) + 1 < l := by omega
        rw [e0, e1]
        clear e0 e1 hk hm hrr
        go_enter Try.func14, Try.ntmps14
        go_upto_region 1 with (fail)
        rw [HW0.out]
        go_wp2_with (first
        | (refine wpList_load_row rfl 29 (.tmp 2) rfl w.heap.size rfl 29 (V.cells m) (0, 0) _ HBX.out Try.underlying29 rfl (by kernel_rfl) ?_)
        | (go_at_call 46; refine HCK.out.mono ?_; rintro e w1 ⟨rfl, hb1⟩; have HB1 := Lib.hid hb1; have c0 := (HX0.out.below hb1 HX0.out.lt).cell 0; simp only [CV.cells, List.getElem?_toArray, List.getElem?_cons_zero] at c0; clear hb1)
        | (go_at_call 50; refine (HLI.out _).mono ?_; rintro e w3 ⟨rfl, rfl⟩))
        go_ret2
        exact ⟨rfl, bt HB0.out (Nat.le_refl _) HB1.out⟩
      · have e0 : fitL C l = 1 := by unfold fitL; rw [if_neg (by rw [HRR.out]; simp), if_neg (by rw [hk]; simp [hl1])]
        have e1 : litF C l = 0 := if_neg (by rw [e0]; decide)
        have HLI := Lib.hid (fun wx => rForm_any wx 0 (by omega) (by omega))
        have hn1 : 2 * (m : Int) + 1 < l := by omega
        rw [e0, e1]
        clear e0 e1 hk hm hrr hl1
        go_enter Try.func14, Try.ntmps14
        go_upto_region 1 with (fail)
        rw [HW0.out]
        go_wp2_with (first
        | (refine wpList_load_row rfl 29 (.tmp 2) rfl w.heap.size rfl 29 (V.cells m) (0, 0) _ HBX.out Try.underlying29 rfl (by kernel_rfl) ?_)
        | (go_at_call 46; refine HCK.out.mono ?_; rintro e w1 ⟨rfl, hb1⟩; have HB1 := Lib.hid hb1; have c0 := (HX0.out.below hb1 HX0.out.lt).cell 0; simp only [CV.cells, List.getElem?_toArray, List.getElem?_cons_zero] at c0; clear hb1)
        | (go_at_call 50; refine (HLI.out _).mono ?_; rintro e w3 ⟨rfl, rfl⟩))
        go_ret2
        exact ⟨rfl, bt HB0.out (Nat.le_refl _) HB1.out⟩
    · have hn0 : l < 0 := by omega
      have e0 : fitL C l = 1 := by unfold fitL; rw [if_neg (by rw [HRR.out]; simp), if_neg (by rw [hk]; simp [hl0])]
      have e1 : litF C l = 0 := if_neg (by rw [e0]; decide)
      have HLI := Lib.hid (fun wx => rForm_any wx 0 (by omega) (by omega))
      rw [e0, e1]
      clear e0 e1 hk hm hrr hl0
      go_enter Try.func14, Try.ntmps14
      go_upto_region 1 with (fail)
      rw [HW0.out]
      go_wp2_with (first
        | (refine wpList_load_row rfl 29 (.tmp 2) rfl w.heap.size rfl 29 (V.cells m) (0, 0) _ HBX.out Try.underlying29 rfl (by kernel_rfl) ?_)
        | (go_at_call 46; refine HCK.out.mono ?_; rintro e w1 ⟨rfl, hb1⟩; have HB1 := Lib.hid hb1; have c0 := (HX0.out.below hb1 HX0.out.lt).cell 0; simp only [CV.cells, List.getElem?_toArray, List.getElem?_cons_zero] at c0; clear hb1)
        | (go_at_call 50; refine (HLI.out _).mono ?_; rintro e w3 ⟨rfl, rfl⟩))
      go_ret2
      exact ⟨rfl, bt HB0.out (Nat.le_refl _) HB1.out⟩
  · have hq : (r != 0) = true := by simpa using h0
    have e0 : fitL C l = r := by unfold fitL; rw [if_pos (by rw [HRR.out]; exact h0)]; exact HRR.out
    have e1 : litF C l = 0 := if_neg (by rw [e0]; exact h0)
    have HLI := Lib.hid (fun wx => rForm_any wx 0 (by omega) (by omega))
    rw [e0, e1]
    clear e0 e1 hrr h0
    go_enter Try.func14, Try.ntmps14
    go_upto_region 1 with (fail)
    rw [HW0.out]
    go_wp2_with (first
        | (refine wpList_load_row rfl 29 (.tmp 2) rfl w.heap.size rfl 29 (V.cells C.max) (0, 0) _ HBX.out Try.underlying29 rfl (by kernel_rfl) ?_)
        | (go_at_call 46; refine HCK.out.mono ?_; rintro e w1 ⟨rfl, hb1⟩; have HB1 := Lib.hid hb1; have c0 := (HX0.out.below hb1 HX0.out.lt).cell 0; simp only [CV.cells, List.getElem?_toArray, List.getElem?_cons_zero] at c0; clear hb1)
        | (go_at_call 50; refine (HLI.out _).mono ?_; rintro e w3 ⟨rfl, rfl⟩))
    go_ret2
    exact ⟨rfl, bt HB0.out (Nat.le_refl _) HB1.out⟩
end Go.Proofs.Ytdodhbfplglbkaa

namespace Go.Proofs.Ytdodhbfplglbkaa
open Go.RowKit

set_option maxHeartbeats 2000000 in
set_option maxRecDepth 100000 in
theorem SameClausesE_any (w : World) (v u : Value) (xs ys : List (List Int)) (h : Lists w v xs) (h' : Lists w u ys) : Calls Try.prog 32 #[v, u] w fun e w' => e = .returned (.bool (decide (xs = ys))) ∧ Below w.heap.size w w' := by
  obtain ⟨A, c, rfl, hlen, hp⟩ := h.at_
  obtain ⟨A', c', rfl, hlen', hq⟩ := h'.at_
  unfold maxLen at hlen hlen'
  generalize hr : decide (xs = ys) = r
  have HR := Lib.hid hr
  have HP := Lib.hid hp
  have HQ := Lib.hid hq
  clear hr hp hq h h'
  by_cases hne : xs.length = ys.length
  · rw [← hne]
    have HM := Lib.hid hne
    clear hne hlen'
    generalize hn : xs.length = n at *
    have HN := Lib.hid hn
    clear hn
    go_enter Try.func32, Try.ntmps32
    go_wp2
    go_loopw [5] (fun i wr => ∃ k : Nat, k ≤ n ∧ i = .int .i64 k ∧ xs.take k = ys.take k ∧ Below w.heap.size w wr) (fun i _ => n - (intOf i).toNat)
    case atStart => exact ⟨0, Nat.zero_le _, rfl, by simp, Below.refl _ _⟩
    case round =>
      obtain ⟨k, hk, rfl, hall, hbw⟩ := hrel
      have HA := Lib.hid hall
      have HBW := Lib.hid hbw
      clear hall hbw
      by_cases hlt : k < n
      · have hx := List.getElem?_eq_getElem (l := xs) (i := k) (by rw [HN.out]; exact hlt)
        have hy := List.getElem?_eq_getElem (l := ys) (i := k) (by rw [← HM.out]; exact hlt)
        generalize xs[k]'(by rw [HN.out]; exact hlt) = x at hx
        generalize ys[k]'(by rw [← HM.out]; exact hlt) = y at hy
        obtain ⟨b, off, u1, rfl, hb, hcell, hrow⟩ := HP.out k x hx
        obtain ⟨b', off', u2, rfl, hb', hcell', hrow'⟩ := HQ.out k y hy
        have HX := Lib.hid hx
        have HY := Lib.hid hy
        have HC1 := Lib.hid hcell
        have HC2 := Lib.hid hcell'
        have HR1 := Lib.hid hrow
        have HR2 := Lib.hid hrow'
        clear hx hy hcell hcell' hrow hrow'
        cases he : decide (x = y)
        · have hr : r = false := by
            rw [← HR.out, decide_eq_false_iff_not]
            intro e
            subst e
            have e2 := HX.out.symm.trans HY.out
            rw [Option.some.injEq] at e2
            rw [decide_eq_true e2] at he
            cases he
          subst hr
          have HE := Lib.hid he
          clear he HX HY
          go_wp2
          refine wp_region_quiet (C := fun w' => Below w.heap.size w w') (by kernel_rfl) (by kernel_rfl) (below_drewN HBW.out 1) ?_
          simp only
          repeat
            first
              | go_big_quiet_skip
              | (refine wpQuiet_step (fun K hK => ?_)
                 rw [if_pos (by rfl)]
                 unfold Oper.quiet
                 apply Exists.intro
                 refine And.intro (fun wx hWx => ?_) (hK _ ?_)
                 · first
                     | (go_simp; exact rfl)
                     | (have q1 := (Below.cell hWx (p := ⟨b, off + k, none⟩) hb).trans HC1.out; go_simp; exact rfl)
                     | (have q2 := (Below.cell hWx (p := ⟨b', off' + k, none⟩) hb').trans HC2.out; go_simp; exact rfl)
                     | (go_simp; refine (SameInts_any wx u1 u2 x y (HR1.out.below hWx) (HR2.out.below hWx)).mono ?_; rw [HE.out]; rintro e w' ⟨rfl, hb2⟩; exact ⟨rfl, bt hWx (Nat.le_refl _) hb2⟩)
                 clear hK K
                 try simp only [Act.put, List.setIfInBounds_toArray, List.set_cons_zero, List.set_cons_succ])
          refine wpQuiet_nil ?_
          intro w5 hW5
          have HW5 := Lib.hid hW5
          clear hW5
          go_wp2
          go_ret
          exact ⟨rfl, HW5.out⟩
        · have HE := Lib.hid he
          have hxy : x = y := by simpa using he
          have HXY := Lib.hid hxy
          clear he hxy
          go_wp2
          refine wp_region_quiet (C := fun w' => Below w.heap.size w w') (by kernel_rfl) (by kernel_rfl) (below_drewN HBW.out 1) ?_
          simp only
          repeat
            first
              | go_big_quiet_skip
              | (refine wpQuiet_step (fun K hK => ?_)
                 rw [if_pos (by rfl)]
                 unfold Oper.quiet
                 apply Exists.intro
                 refine And.intro (fun wx hWx => ?_) (hK _ ?_)
                 · first
                     | (go_simp; exact rfl)
                     | (have q1 := (Below.cell hWx (p := ⟨b, off + k, none⟩) hb).trans HC1.out; go_simp; exact rfl)
                     | (have q2 := (Below.cell hWx (p := ⟨b', off' + k, none⟩) hb').trans HC2.out; go_simp; exact rfl)
                     | (go_simp; refine (SameInts_any wx u1 u2 x y (HR1.out.below hWx) (HR2.out.below hWx)).mono ?_; rw [HE.out]; rintro e w' ⟨rfl, hb2⟩; exact ⟨rfl, bt hWx (Nat.le_refl _) hb2⟩)
                 clear hK K
                 try simp only [Act.put, List.setIfInBounds_toArray, List.set_cons_zero, List.set_cons_succ])
          refine wpQuiet_nil ?_
          intro w5 hW5
          have HW5 := Lib.hid hW5
          clear hW5
          go_wp2
          go_roundw
          case rel => exact ⟨k + 1, by omega, by go_num, take_eq_succ' HX.out (by rw [HXY.out]; exact HY.out) HA.out, HW5.out⟩
          case measure => simp [intOf]; omega
      · have : k = n := by omega
        subst this
        go_wp2
        go_ret
        refine ⟨ret_bool ?_, HBW.out⟩
        rw [← HR.out, eq_comm, decide_eq_true_iff]
        exact take_all HN.out (HM.out.symm) HA.out
  · have hr : r = false := by
      rw [← HR.out, decide_eq_false_iff_not]
      intro e; exact hne (by rw [e])
    subst hr
    have hd : ((xs.length : Int) == (ys.length : Int)) = false := by simpa using fun e => hne (by exact_mod_cast e)
    have hd2 : ((xs.length : Int) != (ys.length : Int)) = true := by simpa using fun e => hne (by exact_mod_cast e)
    have HR := Lib.hid hne
    clear hne
    go_enter Try.func32, Try.ntmps32
    go_wp2
    go_ret
    exact ⟨rfl, Below.refl _ _⟩
end Go.Proofs.Ytdodhbfplglbkaa

namespace Go.Proofs.Ytdodhbfplglbkaa
open Go.RowKit

set_option maxHeartbeats 2000000 in
set_option maxRecDepth 100000 in
theorem SameCnf_any (w : World) (v u : Value) (xs ys : List (List Int)) (m n : Int) (h : Lists w v xs) (h' : Lists w u ys) : Calls Try.prog 17 #[.agg #[.int .i64 m, v], .agg #[.int .i64 n, u]] w fun e w' => e = .returned (.bool (decide (m = n) && decide (xs = ys))) ∧ Below w.heap.size w w' := by
  obtain ⟨W0, hW0⟩ : ∃ W0, (w.alloc (.cells #[.int .i64 m, v] 34)).alloc (.cells #[.int .i64 n, u] 34) = W0 := ⟨_, rfl⟩
  have HB0 : Hid (Below w.heap.size w W0) := Lib.hid (by rw [← hW0]; exact ((Below.refl w.heap.size w).alloc (Nat.le_refl _) _).alloc (by simp) _)
  have ha : Blk W0 w.heap.size 34 #[.int .i64 m, v] := by rw [← hW0]; exact (Blk.new w _ _).alloc _
  have hb : Blk W0 (w.heap.size + 1) 34 #[.int .i64 n, u] := by
    rw [← hW0]
    have := Blk.new (w.alloc (.cells #[.int .i64 m, v] 34)) 34 #[.int .i64 n, u]
    simpa using this
  have HSL := Lib.hid (SameClausesE_any W0 v u xs ys (h.below HB0.out) (h'.below HB0.out))
  have HW0 := Lib.hid hW0
  have a0 := ha.cell 0
  have a1 := ha.cell 1
  have b0 := hb.cell 0
  have b1 := hb.cell 1
  simp only [List.getElem?_toArray, List.getElem?_cons_zero, List.getElem?_cons_succ] at a0 a1 b0 b1
  obtain ⟨A1, n1, c1, e1⟩ := sl_formL h
  obtain ⟨A2, n2, c2, e2⟩ := sl_formL h'
  subst e1 e2
  clear hW0 ha hb h h'
  by_cases hmn : m = n
  · subst hmn
    have hq : (m == m) = true := by simp
    go_enter Try.func17, Try.ntmps17
    go_upto_region 1 with (fail)
    rw [HW0.out]
    go_wp2_with (go_at_call 32; refine HSL.out.mono ?_; rintro e w1 ⟨rfl, hb1⟩; have HB1 := Lib.hid hb1; clear hb1)
    go_ret
    exact ⟨ret_bool (by simp), bt HB0.out (Nat.le_refl _) HB1.out⟩
  · have hq : (m == n) = false := by simpa using hmn
    have hd : decide (m = n) = false := by simpa using hmn
    rw [hd]
    clear hmn hd
    go_enter Try.func17, Try.ntmps17
    go_upto_region 1 with (fail)
    rw [HW0.out]
    go_wp2
    go_ret
    exact ⟨rfl, HB0.out⟩
end Go.Proofs.Ytdodhbfplglbkaa

namespace Go.Proofs.Ytdodhbfplglbkaa
open Go.RowKit

set_option maxHeartbeats 20000000 in
set_option maxRecDepth 100000 in
theorem rCone_any (w : World) (V : CV) (C : Circ) (v : Value) (L : List Int) (h : C.In w V) (ok : C.Ok) (htn : ∀ s ∈ C.comments, s.size ≤ maxLen) (hv : RowE 1 encI w v L) :
    Calls Try.prog 16 #[V.val C.max, v] w fun e w' => Below w.heap.size w w' ∧ ∃ u us, e = .returned (.tuple #[.agg #[.int .i64 (coneN C L), u], .int .i64 (fitK C L)]) ∧ DRow w' w.heap.size u us (coneF C L) := by
  obtain ⟨W0, hW0⟩ : ∃ W0, (w.alloc (.cells (V.cells C.max) 29)).alloc (.cells #[.int .i64 0, .slice none 0 0] 34) = W0 := ⟨_, rfl⟩
  have HB0 : Hid (Below w.heap.size w W0) := Lib.hid (by rw [← hW0]; exact ((Below.refl w.heap.size w).alloc (Nat.le_refl _) _).alloc (by simp) _)
  have HX0 : Hid (Blk W0 w.heap.size 29 (V.cells C.max)) := Lib.hid (by rw [← hW0]; exact (Blk.new w _ _).alloc _)
  have H1 : Hid (Blk W0 (w.heap.size + 1) 34 #[.int .i64 0, .slice none 0 0]) := Lib.hid (by
    rw [← hW0]
    have := Blk.new (w.alloc (.cells (V.cells C.max) 29)) 34 #[.int .i64 0, .slice none 0 0]
    simpa using this)
  have HCK := Lib.hid (rInputsC_any W0 V C v L (h.below HB0.out) ok htn (hv.below HB0.out))
  have HIN := Lib.hid (h.below HB0.out)
  have HW0 := Lib.hid hW0
  have HS0 : Hid (W0.heap.size = w.heap.size + 1 + 1) := Lib.hid (by rw [← hW0]; simp)
  have hbx : W0.heap[w.heap.size]? = some (.cells (V.cells C.max) 29 (0, 0)) := HX0.out
  have HBX := Lib.hid hbx
  have HV := Lib.hid (hv.below HB0.out)
  obtain ⟨r, hr⟩ : ∃ r, litsE C L = r := ⟨_, rfl⟩
  have hkr : fitK C L = r := hr
  have HRR := Lib.hid hr
  rw [hr] at HCK
  obtain ⟨LA, lc, eV, _, _, hLL⟩ := HV.out
  subst eV
  have HLL := Lib.hid hLL
  clear hW0 h ok hbx htn hv hLL
  by_cases h0 : r = 0
  · subst h0
    obtain ⟨hz, hl16, hlf⟩ := litsE_ok HRR.out
    have hf := fine_of hz
    have hr := right_of hz
    have hfit : CFits (withU C) L := fits_with hf hlf
    obtain ⟨m, hmm⟩ : ∃ m : Nat, C.max = (m : Int) := ⟨C.max.toNat, by have := hr.m0; omega⟩
    have hm16 : m ≤ 16384 := by have := hr.m1; omega
    have HMM : Hid (C.max.toNat = m) := Lib.hid (by rw [hmm]; rfl)
    obtain ⟨AA, cA, eA, _, _, hA⟩ := HIN.out.a
    have HZZ := Lib.hid (gates_in hz hmm)
    have HNN := Lib.hid hr.na
    have e1 : coneF C L = formC (coneG C L) := if_pos hkr
    have e2 : coneN C L = (m : Int) + 1 := by unfold coneN; rw [if_pos hkr, hmm]
    rw [hkr, e1, e2]
    have HAN : Hid (∀ z ∈ C.ands, (withU C).getD (vOf z.1) (0, 0) = z.2) := Lib.hid (fun z hz => withU_and hf hz)
    have HIF : Hid (∀ z ∈ C.ands, (0 ≤ z.1 ∧ vOf z.1 < m + 1 ∧ vOf z.1 ≠ 0) ∧ (0 ≤ z.2.1 ∧ vOf z.2.1 < m + 1) ∧ (0 ≤ z.2.2 ∧ vOf z.2.2 < m + 1)) := Lib.hid (fun z hz => by
      obtain ⟨⟨a1, a2⟩, ⟨b1, b2⟩, ⟨c1, c2⟩⟩ := hr.a z hz
      unfold vOf
      exact ⟨⟨by omega, by omega, by omega⟩, ⟨b1, by omega⟩, ⟨c1, by omega⟩⟩)
    have HEND : Hid (∀ A, SpI (withU C) L (m + 1) A → Rts L A → ClA C.ands A → C.ands.filter (keepP A) = coneG C L) := Lib.hid (fun A h1 h2 h3 => by
      have hE := spread_end (th := false) hf (by rw [HMM.out]; exact h1) h2 h3 (fun h => by cases h) hfit
      refine List.filter_congr (fun z hz => ?_)
      show A.getD (vOf z.1) false = (supF (withU C) L).getD (vOf z.1) false
      have hE2 : A.set 0 false = supF (withU C) L := hE
      rw [← hE2, getD_setF (Ne.symm (HIF.out z hz).1.2.2)])
    have HIL : Hid (∀ l ∈ L, 0 ≤ l ∧ vOf l < m + 1) := Lib.hid (fun l hl => by
      have := hlf l hl
      unfold vOf
      exact ⟨this.1, by omega⟩)
    have hnA16 := hr.na
    have HA := Lib.hid hA
    rw [hmm] at HX0 HBX HCK HW0 ⊢
    clear hz hf hr hfit hA hlf hmm e1 e2 hkr
    obtain ⟨nA, hnA⟩ : ∃ n, C.ands.length = n := ⟨_, rfl⟩
    obtain ⟨nl, hnl⟩ : ∃ n, L.length = n := ⟨_, rfl⟩
    rw [hnA] at hnA16 eA
    rw [hnl] at hl16 HCK ⊢
    have HNA := Lib.hid hnA
    have HNl := Lib.hid hnl
    have EA := Lib.hid eA
    clear hnA hnl eA
    have hmk := make_bools (m + 1) (by omega)
    push_cast at hmk
    have hwm : IntKind.i64.wrap ((m : Int) + 1) = (m : Int) + 1 := i64_small (by omega) (by omega)
    go_enter Try.func16, Try.ntmps16
    go_upto_region 1 with (fail)
    rw [HW0.out]
    go_upto_region 4 with (first
      | (refine wpList_load_row rfl 29 (.tmp 2) rfl w.heap.size rfl 29 (V.cells m) (0, 0) _ HBX.out Try.underlying29 rfl (by kernel_rfl) ?_)
      | (go_at_call 53; refine HCK.out.mono ?_; rintro e W1 ⟨hb1, rv, rfl, _, _⟩; have HB1 := Lib.hid hb1; clear hb1))
    have HX1 := Lib.hid (HX0.out.below HB1.out HX0.out.lt)
    have c0 := HX1.out.cell 0
    simp only [CV.cells, List.getElem?_toArray, List.getElem?_cons_zero] at c0
    have HTA := Lib.hid (new_supp W1 (m + 1))
    have HB4 : Hid (Below W1.heap.size W1 (W1.alloc (.cells (madeCells #[Value.bool false] (m + 1)) 4))) := Lib.hid ((Below.refl _ _).alloc (Nat.le_refl _) _)
    have HSP : Hid (SpI (withU C) L (m + 1) (List.replicate (m + 1) false)) := Lib.hid ⟨by simp, fun v _ hv => by
      rw [List.getD_eq_getElem?_getD, List.getElem?_replicate] at hv
      split at hv <;> simp at hv⟩
    have HCX : Hid (∀ wz, Below W1.heap.size W1 wz → wz.cell? ⟨w.heap.size, 0, none⟩ = some (.int .i64 m) ∧ True ∧ wz.cell? ⟨w.heap.size, 8, none⟩ = some (.slice AA nA cA) ∧ Below W0.heap.size W0 wz) := Lib.hid (fun wz hz => by
      have q := HX1.out.below hz HX1.out.lt
      exact ⟨q.cell 0, trivial, (q.cell 8).trans (congrArg some EA.out), bt HB1.out (Nat.le_refl _) hz⟩)
    have HG0 : Hid (W0.heap.size ≤ W1.heap.size) := Lib.hid HB1.out.size
    obtain ⟨ga, hga⟩ : ∃ ga, W1.heap.size = ga := ⟨_, rfl⟩
    rw [hga] at HTA HB4 HCX HG0
    obtain ⟨u, hu⟩ : ∃ u, withU C = u := ⟨_, rfl⟩
    rw [hu] at HAN HEND HSP
    clear hu
    go_upto_region 5 with (fail)
    clear hga
    go_wp2
    go_loopg [9] nl (fun j iv wx => ∃ (q : Nat) (A : List Bool), q ≤ nl ∧ j = nl - q ∧ iv = .int .i64 q ∧ Below ga W1 wx ∧ Tab wx ga A ∧ SpI u L (m + 1) A ∧ Rts (L.take q) A)
    case atStart => exact ⟨0, _, Nat.zero_le _, rfl, rfl, HB4.out, HTA.out, HSP.out, fun l hl => by simp at hl⟩
    case round =>
      obtain ⟨q, A, hq, hgk, rfl, hbl, hta, hsp, hrt⟩ := hrel
      subst hgk
      clear HB4 HTA HSP
      have HB := Lib.hid hbl
      have HTA := Lib.hid hta
      have HSP := Lib.hid hsp
      have HRT := Lib.hid hrt
      clear hbl hta hsp hrt
      by_cases hlt : q < nl
      · obtain ⟨x, hx⟩ : ∃ x, L[q]? = some x := ⟨_, List.getElem?_eq_getElem (by rw [HNl.out]; exact hlt)⟩
        obtain ⟨b, off, e, hb, hcell⟩ := HLL.out q x hx
        subst e
        have h0 := ((HCX.out wr HB.out).2.2.2.cell (p := ⟨b, off + (q * 1 + 0), none⟩) hb).trans (hcell 0 _ rfl)
        simp only [Nat.add_zero, Nat.mul_one] at h0
        obtain ⟨x0, x1⟩ := HIL.out x (List.mem_of_getElem? hx)
        have hxv : (x / 2).toNat < m + 1 := x1
        obtain ⟨y, hy⟩ : ∃ y, A[(x / 2).toNat]? = some y := ⟨_, List.getElem?_eq_getElem (by rw [HSP.out.len]; exact hxv)⟩
        have hca := HTA.out.cell hy
        have hfa := Blk.frozen HTA.out (x / 2).toNat
        have hla := Blk.lt HTA.out
        have HTN := Lib.hid (HTA.out.set_ (x / 2).toNat true)
        have HBN : Hid (Below ga W1 (wr.setCell ⟨ga, (x / 2).toNat, none⟩ (.bool true))) := Lib.hid (HB.out.setCell (Nat.le_refl _) _)
        have HSN : Hid (SpI u L (m + 1) (A.set (x / 2).toNat true)) := Lib.hid (HSP.out.set_ x1 x0 (fun h2 => Hang.root (List.mem_of_getElem? hx) h2))
        have HRN : Hid (Rts (L.take (q + 1)) (A.set (x / 2).toNat true)) := Lib.hid (fun l hl => by
          rw [take_more hx] at hl
          have hA : (x / 2).toNat < A.length := by rw [HSP.out.len]; exact hxv
          rcases List.mem_append.1 hl with hl | hl
          · exact (setB_get hA _).2 (Or.inl (HRT.out l hl))
          · rw [List.mem_singleton.1 hl]; exact (setB_get hA _).2 (Or.inr rfl))
        have hqt := tdiv_nn (b := 2) x0
        have hq0 : 0 ≤ x / 2 := by omega
        have hq1 : x / 2 < (m : Int) + 1 := by omega
        have hq3 : IntKind.i64.wrap (x / 2) = x / 2 := i64_small (by omega) (by omega)
        have hk0 : (0 : Int) ≤ (q : Int) := by omega
        have hk1 : (q : Int) < (nl : Int) := by omega
        clear hcell hx hy x1 hxv
        go_wp2
        go_roundg (nl - (q + 1))
        case measure => omega
        case rel => exact ⟨q + 1, _, by omega, rfl, by go_num, HBN.out, HTN.out, HSN.out, HRN.out⟩
      · have hqe : nl = q := by omega
        subst hqe
        have hrt2 := HRT.out
        rw [List.take_of_length_le (by rw [HNl.out]; exact Nat.le_refl _)] at hrt2
        have HRT := Lib.hid hrt2
        clear hrt2 hlt hq
        go_wp2
        go_loopg [10] (cf A + 1) (fun k vg wx => ∃ (A : List Bool) (ag : Bool), k = (if ag = true then cf A + 1 else 0) ∧ vg = .bool ag ∧ Below ga W1 wx ∧ Tab wx ga A ∧ SpI u L (m + 1) A ∧ Rts L A ∧ (ag = false → ClA C.ands A))
        case atStart => exact ⟨A, true, rfl, rfl, HB.out, HTA.out, HSP.out, HRT.out, (fun h => by cases h)⟩
        case round =>
          clear HB HTA HSP HRT
          obtain ⟨A1, ag, rfl, rfl, hbl, hta, hsp, hrt, hcl⟩ := hrel
          have HB := Lib.hid hbl
          have HTA := Lib.hid hta
          have HSP := Lib.hid hsp
          have HRT := Lib.hid hrt
          clear hbl hta hsp hrt
          cases ag with
          | false =>
            have hfil := HEND.out A1 HSP.out HRT.out (hcl rfl)
            have hbw : Below W0.heap.size W0 wr := HB1.out.trans (HB.out.mono HG0.out)
            have HBW := Lib.hid hbw
            have hrow : RowE 1 encO wr (.slice (some ⟨ga, 0, none⟩) (m + 1) (m + 1)) A1 := by
              have := tabT_row HTA.out (by rw [HSP.out.len]; simp only [maxLen]; omega)
              rwa [HSP.out.len] at this
            have hso := rSome_any wr V m C.ands A1 (.slice (some ⟨ga, 0, none⟩) (m + 1) (m + 1)) hm16 ((HIN.out.below hbw).a) HNN.out HZZ.out hrow HSP.out.len
            rw [hfil] at hso
            have HSO := Lib.hid hso
            have HXW : Hid (Blk wr w.heap.size 29 (V.cells m)) := Lib.hid (HX0.out.below hbw HX0.out.lt)
            have HRW : Hid (Blk wr (w.heap.size + 1) 34 #[.int .i64 0, .slice none 0 0]) := Lib.hid (H1.out.below hbw H1.out.lt)
            have HBXW : Hid (wr.heap[w.heap.size]? = some (.cells (V.cells m) 29 (0, 0))) := Lib.hid HXW.out
            clear hso hrow hfil hbw hcl
            go_wp2_with (first
              | (refine wpList_load_row rfl 29 (.tmp 2) rfl w.heap.size rfl 29 (V.cells m) (0, 0) _ HBXW.out Try.underlying29 rfl (by kernel_rfl) ?_)
              | (go_at_call 47; refine HSO.out.mono ?_; rintro e w4 ⟨hb4, vv, us, rfl, hl4⟩; obtain ⟨vA, vc, hve⟩ := own_slice_k hl4.own; subst hve; have HB4 := Lib.hid hb4; have HL4 := Lib.hid hl4; have HR4 := Lib.hid (HRW.out.below hb4 HRW.out.lt); have r0 := HR4.out.cell 0; have r1 := HR4.out.cell 1; have rf0 := HR4.out.frozen 0; have rf1 := HR4.out.frozen 1; have rl := HR4.out.lt; simp only [List.getElem?_toArray, List.getElem?_cons_zero, List.getElem?_cons_succ] at r0 r1; clear hb4 hl4))
            have hw9 : Blk ((w4.setCell ⟨w.heap.size + 1, 0, none⟩ (.int .i64 ((m : Int) + 1))).setCell ⟨w.heap.size + 1, 1, none⟩ (.slice vA us.length vc)) (w.heap.size + 1) 34 #[.int .i64 ((m : Int) + 1), .slice vA us.length vc] := by
              have := (HR4.out.set_ 0 (.int .i64 ((m : Int) + 1))).set_ 1 (.slice vA us.length vc)
              simpa using this
            refine bodyPost_ret (results_cell_oneE (fn := Try.f16) (p := 4) (q := 5) rfl _ _ (w.heap.size + 1) 34 #[.int .i64 ((m : Int) + 1), .slice vA us.length vc] (0, 0) _ rfl hw9 Try.underlying34 rfl (by kernel_rfl) (.int .i64 0) rfl) rfl ?_
            have hbw := bt (bt HB0.out (Nat.le_refl _) HBW.out) (Nat.le_refl _) HB4.out
            exact ⟨(hbw.setCell (by simp) _).setCell (by simp) _, _, us, rfl, (HL4.out.far HR4.out (by decide) (by decide) (fun k _ hk => (Below.heap_setCell _ _ _ _ hk).trans (Below.heap_setCell _ _ _ _ hk))).base (by have := HB0.out.size; have := HBW.out.size; omega)⟩
          | true =>
            clear hcl
            obtain ⟨y0, y2, y8, _⟩ := HCX.out wr HB.out
            go_wp2
            go_loopg [10, 11] nA (fun j vg iv wx => ∃ (q : Nat) (B : List Bool) (ag : Bool), q ≤ nA ∧ j = nA - q ∧ iv = .int .i64 q ∧ vg = .bool ag ∧ Below ga W1 wx ∧ Tab wx ga B ∧ SpI u L (m + 1) B ∧ Rts L B ∧ cf B ≤ cf A1 ∧ (ag = true → cf B < cf A1) ∧ (ag = false → ClA (C.ands.take q) B))
            case atStart => exact ⟨0, A1, false, Nat.zero_le _, rfl, rfl, rfl, HB.out, HTA.out, HSP.out, HRT.out, Nat.le_refl _, (fun h => by cases h), (fun _ z hz => by simp at hz)⟩
            case round =>
              clear HB HTA HSP HRT
              obtain ⟨q, B, ag, hq, hgk, rfl, rfl, hbl, hta, hsp, hrt, hcf1, hcf2, hcl⟩ := hrel
              subst hgk
              have HB := Lib.hid hbl
              have HTA := Lib.hid hta
              have HSP := Lib.hid hsp
              have HRT := Lib.hid hrt
              have HCF := Lib.hid (And.intro hcf1 (And.intro hcf2 hcl))
              clear hbl hta hsp hrt hcf1 hcf2 hcl
              obtain ⟨y0, y2, y8, _⟩ := HCX.out wr HB.out
              by_cases hlt : q < nA
              · have hk0 : (0 : Int) ≤ (q : Int) := by omega
                have hk1 : (q : Int) < (nA : Int) := by omega
                obtain ⟨⟨z0, z1, z2⟩, hz⟩ : ∃ z, C.ands[q]? = some z := ⟨_, List.getElem?_eq_getElem (by rw [HNA.out]; exact hlt)⟩
                obtain ⟨b, off, e, hb, hcell⟩ := HA.out q (z0, z1, z2) hz
                subst e
                have h0 := ((HCX.out wr HB.out).2.2.2.cell (p := ⟨b, off + (q * 3 + 0), none⟩) hb).trans (hcell 0 _ rfl)
                have h1 := ((HCX.out wr HB.out).2.2.2.cell (p := ⟨b, off + (q * 3 + 1), none⟩) hb).trans (hcell 1 _ rfl)
                have h2 := ((HCX.out wr HB.out).2.2.2.cell (p := ⟨b, off + (q * 3 + 2), none⟩) hb).trans (hcell 2 _ rfl)
                simp only [Nat.add_zero, ← Nat.add_assoc] at h0 h1 h2
                obtain ⟨⟨x0, x1, x3⟩, ⟨u0, u1⟩, v0, v1⟩ := HIF.out (z0, z1, z2) (List.mem_of_getElem? hz)
                simp only at x0 x1 x3 u0 u1 v0 v1
                have HZM : Hid ((z0, z1, z2) ∈ C.ands) := Lib.hid (List.mem_of_getElem? hz)
                have HZ := Lib.hid hz
                have HBA : Hid (Below ga W1 (wr.alloc (.cells #[.int .i64 z0, .int .i64 z1, .int .i64 z2] 68))) := Lib.hid (HB.out.alloc (by have := Blk.lt HTA.out; omega) _)
                have hTA1 : Tab (wr.alloc (.cells #[.int .i64 z0, .int .i64 z1, .int .i64 z2] 68)) ga B := Blk.alloc HTA.out _
                have HTA1 := Lib.hid hTA1
                have hqt := tdiv_nn (b := 2) x0
                have hq0 : 0 ≤ z0 / 2 := by omega
                have hut := tdiv_nn (b := 2) u0
                have hu0 : 0 ≤ z1 / 2 := by omega
                have hvt := tdiv_nn (b := 2) v0
                have hv0 : 0 ≤ z2 / 2 := by omega
                have ib0 : (z0 / 2).toNat < m + 1 := x1
                have jb0 : z0 / 2 < (m : Int) + 1 := by omega
                have kb0 : IntKind.i64.wrap (z0 / 2) = z0 / 2 := i64_small (by omega) (by omega)
                obtain ⟨b0, hb0⟩ : ∃ y, B[(z0 / 2).toNat]? = some y := ⟨_, List.getElem?_eq_getElem (by rw [HSP.out.len]; exact ib0)⟩
                have cb0 := hTA1.cell hb0
                have gb0 : B.getD (vOf z0) false = b0 := by unfold vOf; rw [List.getD_eq_getElem?_getD, hb0]; rfl
                have ib1 : (z1 / 2).toNat < m + 1 := u1
                have jb1 : z1 / 2 < (m : Int) + 1 := by omega
                have kb1 : IntKind.i64.wrap (z1 / 2) = z1 / 2 := i64_small (by omega) (by omega)
                obtain ⟨b1, hb1⟩ : ∃ y, B[(z1 / 2).toNat]? = some y := ⟨_, List.getElem?_eq_getElem (by rw [HSP.out.len]; exact ib1)⟩
                have cb1 := hTA1.cell hb1
                have gb1 : B.getD (vOf z1) false = b1 := by unfold vOf; rw [List.getD_eq_getElem?_getD, hb1]; rfl
                have ib2 : (z2 / 2).toNat < m + 1 := v1
                have jb2 : z2 / 2 < (m : Int) + 1 := by omega
                have kb2 : IntKind.i64.wrap (z2 / 2) = z2 / 2 := i64_small (by omega) (by omega)
                obtain ⟨b2, hb2⟩ : ∃ y, B[(z2 / 2).toNat]? = some y := ⟨_, List.getElem?_eq_getElem (by rw [HSP.out.len]; exact ib2)⟩
                have cb2 := hTA1.cell hb2
                have gb2 : B.getD (vOf z2) false = b2 := by unfold vOf; rw [List.getD_eq_getElem?_getD, hb2]; rfl
                cases b0 with
                | false =>
                  have HCN : Hid (ag = false → ClA (C.ands.take (q + 1)) B) := Lib.hid (fun h => (HCF.out.2.2 h).more HZ.out (fun h2 => by simp only at h2; rw [gb0] at h2; cases h2))
                  clear hcell hz hTA1 ib0 ib1 ib2 hb0 gb0 hb1 gb1 hb2 gb2
                  go_wp2
                  go_roundg (nA - (q + 1))
                  case measure => omega
                  case rel => exact ⟨q + 1, B, ag, by omega, rfl, by go_num, rfl, HBA.out, HTA1.out, HSP.out, HRT.out, HCF.out.1, HCF.out.2.1, HCN.out⟩
                | true =>
                  have HH0 : Hid (Hang u L (vOf z0)) := Lib.hid (HSP.out.ok _ x3 gb0)
                  have HH1 : Hid (2 ≤ z1 → Hang u L (vOf z1)) := Lib.hid (fun h2 => by have h9 := HAN.out _ HZM.out; have h3 := Hang.left HH0.out (by rw [h9]; exact h2); rw [h9] at h3; exact h3)
                  have HH2 : Hid (2 ≤ z2 → Hang u L (vOf z2)) := Lib.hid (fun h2 => by have h9 := HAN.out _ HZM.out; have h3 := Hang.right HH0.out (by rw [h9]; exact h2); rw [h9] at h3; exact h3)
                  cases b1 with
                  | false =>
                    have hset1 := HSP.out.set_ u1 u0 HH1.out
                    have HSN : Hid (SpI u L (m + 1) ((B.set (z1 / 2).toNat true).set (z2 / 2).toNat true)) := Lib.hid (hset1.set_ v1 v0 HH2.out)
                    have HRN : Hid (Rts L ((B.set (z1 / 2).toNat true).set (z2 / 2).toNat true)) := Lib.hid ((HRT.out.set_ (by rw [HSP.out.len]; exact u1)).set_ (by rw [List.length_set, HSP.out.len]; exact v1))
                    have HLT : Hid (cf ((B.set (z1 / 2).toNat true).set (z2 / 2).toNat true) < cf A1) := Lib.hid (by
                      have h3 := HCF.out.1
                      have h1 := cf_set_lt B (z1 / 2).toNat hb1
                      have h2 := cf_set_le (B.set (z1 / 2).toNat true) (z2 / 2).toNat
                      omega)
                    obtain ⟨y2b, hy2b⟩ : ∃ y, (B.set (z1 / 2).toNat true)[(z2 / 2).toNat]? = some y := ⟨_, List.getElem?_eq_getElem (by rw [List.length_set, HSP.out.len]; exact v1)⟩
                    have hT1 : Tab (wr.alloc (.cells #[.int .i64 z0, .int .i64 z1, .int .i64 z2] 68)).drew ga B := HTA1.out
                    have hT2 := hT1.set_ (z1 / 2).toNat true
                    have hT2d : Tab ((wr.alloc (.cells #[.int .i64 z0, .int .i64 z1, .int .i64 z2] 68)).setCell ⟨ga, (z1 / 2).toNat, none⟩ (.bool true)).drew ga (B.set (z1 / 2).toNat true) := hT2
                    have hz1 : Blk (wr.alloc (.cells #[.int .i64 z0, .int .i64 z1, .int .i64 z2] 68)).drew wr.heap.size 68 #[.int .i64 z0, .int .i64 z1, .int .i64 z2] := Blk.new wr _ _
                    have hga2 : wr.heap.size ≠ ga := by have := Blk.lt HTA.out; omega
                    have hz2 := hz1.far (p := ⟨ga, (z1 / 2).toNat, none⟩) hga2 (.bool true)
                    have hz3 := hz2.far (p := ⟨ga, (z2 / 2).toNat, none⟩) hga2 (.bool true)
                    have HZ1 := Lib.hid (And.intro (hz1.cell 1) (hz1.cell 2))
                    have HZ2 := Lib.hid (And.intro (hz2.cell 1) (hz2.cell 2))
                    have HZ3 := Lib.hid (And.intro (hz3.cell 1) (hz3.cell 2))
                    have HCA1 := Lib.hid (And.intro (hT1.cell hb1) (And.intro (Blk.frozen hT1 (z1 / 2).toNat) (Blk.lt hT1)))
                    have HCA2 := Lib.hid (And.intro (hT2d.cell hy2b) (And.intro (Blk.frozen hT2d (z2 / 2).toNat) (Blk.lt hT2d)))
                    have HTN := Lib.hid (hT2.set_ (z2 / 2).toNat true)
                    have HBN : Hid (Below ga W1 (((wr.alloc (.cells #[.int .i64 z0, .int .i64 z1, .int .i64 z2] 68)).drew.setCell ⟨ga, (z1 / 2).toNat, none⟩ (.bool true)).setCell ⟨ga, (z2 / 2).toNat, none⟩ (.bool true))) := Lib.hid ((HBA.out.drew.setCell (Nat.le_refl _) _).setCell (Nat.le_refl _) _)
                    clear hcell hz hTA1 ib0 ib1 ib2 hb0 gb0 hb1 gb1 hb2 gb2 hset1 hy2b hT1 hT2 hT2d hz1 hz2 hz3
                    go_upto_region 17 with (fail)
                    refine wp_region_T (by kernel_rfl) (fun w' => w'.cell? ⟨wr.heap.size, 1, none⟩ = some (.int .i64 z1) ∧ w'.cell? ⟨wr.heap.size, 2, none⟩ = some (.int .i64 z2)) 12 ?_
                    have hHeld := HZ1.out
                    refine wpAnyT_take (i := 0) (v := ?v0r14q1) rfl (by kernel_rfl) (fun _ _ _ h => h) (by rfl) hHeld ?h0r14q1 ?_
                    case h0r14q1 => (intro w' hSw; (try dsimp only at hSw); go_simp; try with_reducible rfl)
                    (try simp only [Act.put, List.setIfInBounds_toArray])
                    refine wpAnyT_take (i := 1) (v := ?v1r14q1) rfl (by kernel_rfl) (fun _ _ _ h => h) (by rfl) hHeld ?h1r14q1 ?_
                    case h1r14q1 => (intro w' hSw; (try dsimp only at hSw); go_simp; try with_reducible rfl)
                    (try simp only [Act.put])
                    refine wpAnyT_take (i := 2) (v := ?v2r14q1) rfl (by kernel_rfl) (fun _ _ _ h => h) (by rfl) hHeld ?h2r14q1 ?_
                    case h2r14q1 => (intro w' hSw; (try dsimp only at hSw); go_simp; try with_reducible rfl)
                    (try simp only [Act.put])
                    refine wpAnyT_take (i := 3) (v := ?v3r14q1) rfl (by kernel_rfl) (fun _ _ _ h => h) (by rfl) hHeld ?h3r14q1 ?_
                    case h3r14q1 => (intro w' hSw; (try dsimp only at hSw); go_simp; try with_reducible rfl)
                    (try simp only [Act.put])
                    refine wpAnyT_take (i := 4) (v := ?v4r14q1) rfl (by kernel_rfl) (fun _ _ _ h => h) (by rfl) hHeld ?h4r14q1 ?_
                    case h4r14q1 => (intro w' hSw; (try dsimp only at hSw); go_simp; try with_reducible rfl)
                    (try simp only [Act.put])
                    refine wpAnyT_take (i := 5) (v := ?v5r14q1) rfl (by kernel_rfl) (fun _ _ _ h => h) (by rfl) hHeld ?h5r14q1 ?_
                    case h5r14q1 => (intro w' hSw; (try dsimp only at hSw); go_simp; try with_reducible rfl)
                    (try simp only [Act.put])
                    refine wpAnyT_take (i := 6) (v := ?v6r14q1) rfl (by kernel_rfl) (fun _ _ _ h => h) (by rfl) hHeld ?h6r14q1 ?_
                    case h6r14q1 => (intro w' hSw; (try dsimp only at hSw); go_simp; try with_reducible rfl)
                    (try simp only [Act.put])
                    refine wpAnyT_take (i := 7) (v := ?v7r14q1) rfl (by kernel_rfl) (fun _ _ _ h => h) (by rfl) hHeld ?h7r14q1 ?_
                    case h7r14q1 => (intro w' hSw; (try dsimp only at hSw); go_simp; try with_reducible rfl)
                    (try simp only [Act.put])
                    refine wpAnyT_take (i := 8) (v := ?v8r14q1) rfl (by kernel_rfl) (fun _ _ _ h => h) (by rfl) hHeld ?h8r14q1 ?_
                    case h8r14q1 => (intro w' hSw; (try dsimp only at hSw); go_simp; try with_reducible rfl)
                    (try simp only [Act.put])
                    clear hHeld
                    obtain ⟨k1, k2, k3⟩ := HCA1.out
                    refine wpAnyT_one (i := 9) rfl (by kernel_rfl) (fun K hK => ?_)
                    go_simp
                    refine hK.out _ _ (fun _ => HZ2.out) ?_
                    clear hK K k1 k2 k3
                    (try simp only [Act.put, List.setIfInBounds_toArray, List.set_cons_zero, List.set_cons_succ])
                    have hHeld := HZ2.out
                    refine wpAnyT_take (i := 10) (v := ?v10r14q2) rfl (by kernel_rfl) (fun _ _ _ h => h) (by rfl) hHeld ?h10r14q2 ?_
                    case h10r14q2 => (intro w' hSw; (try dsimp only at hSw); go_simp; try with_reducible rfl)
                    (try simp only [Act.put, List.setIfInBounds_toArray])
                    clear hHeld
                    obtain ⟨k1, k2, k3⟩ := HCA2.out
                    refine wpAnyT_one (i := 11) rfl (by kernel_rfl) (fun K hK => ?_)
                    go_simp
                    refine hK.out _ _ (fun _ => HZ3.out) ?_
                    clear hK K k1 k2 k3
                    (try simp only [Act.put, List.setIfInBounds_toArray, List.set_cons_zero, List.set_cons_succ])
                    refine wpAnyT_done (by kernel_rfl) ?_
                    go_wp2
                    go_roundg (nA - (q + 1))
                    case measure => omega
                    case rel => exact ⟨q + 1, _, true, by omega, rfl, by go_num, rfl, HBN.out, HTN.out, HSN.out, HRN.out, Nat.le_of_lt HLT.out, (fun _ => HLT.out), (fun h => by cases h)⟩
                  | true =>
                    cases b2 with
                    | true =>
                      have HCN : Hid (ag = false → ClA (C.ands.take (q + 1)) B) := Lib.hid (fun h => (HCF.out.2.2 h).more HZ.out (fun _ => ⟨gb1, gb2⟩))
                      clear hcell hz hTA1 ib0 ib1 ib2 hb0 gb0 hb1 gb1 hb2 gb2
                      go_wp2
                      go_roundg (nA - (q + 1))
                      case measure => omega
                      case rel => exact ⟨q + 1, B, ag, by omega, rfl, by go_num, rfl, HBA.out, HTA1.out, HSP.out, HRT.out, HCF.out.1, HCF.out.2.1, HCN.out⟩
                    | false =>
                      have hset1 := HSP.out.set_ u1 u0 HH1.out
                      have HSN : Hid (SpI u L (m + 1) ((B.set (z1 / 2).toNat true).set (z2 / 2).toNat true)) := Lib.hid (hset1.set_ v1 v0 HH2.out)
                      have HRN : Hid (Rts L ((B.set (z1 / 2).toNat true).set (z2 / 2).toNat true)) := Lib.hid ((HRT.out.set_ (by rw [HSP.out.len]; exact u1)).set_ (by rw [List.length_set, HSP.out.len]; exact v1))
                      have HLT : Hid (cf ((B.set (z1 / 2).toNat true).set (z2 / 2).toNat true) < cf A1) := Lib.hid (by
                        have h3 := HCF.out.1
                        have hne : (z1 / 2).toNat ≠ (z2 / 2).toNat := fun e => by rw [e, hb2] at hb1; cases hb1
                        have h1 := cf_set_le B (z1 / 2).toNat
                        have h2 := cf_set_lt (B.set (z1 / 2).toNat true) (z2 / 2).toNat (by rw [List.getElem?_set_ne hne]; exact hb2)
                        omega)
                      obtain ⟨y2b, hy2b⟩ : ∃ y, (B.set (z1 / 2).toNat true)[(z2 / 2).toNat]? = some y := ⟨_, List.getElem?_eq_getElem (by rw [List.length_set, HSP.out.len]; exact v1)⟩
                      have hT1 : Tab (wr.alloc (.cells #[.int .i64 z0, .int .i64 z1, .int .i64 z2] 68)).drew ga B := HTA1.out
                      have hT2 := hT1.set_ (z1 / 2).toNat true
                      have hT2d : Tab ((wr.alloc (.cells #[.int .i64 z0, .int .i64 z1, .int .i64 z2] 68)).setCell ⟨ga, (z1 / 2).toNat, none⟩ (.bool true)).drew ga (B.set (z1 / 2).toNat true) := hT2
                      have hz1 : Blk (wr.alloc (.cells #[.int .i64 z0, .int .i64 z1, .int .i64 z2] 68)).drew wr.heap.size 68 #[.int .i64 z0, .int .i64 z1, .int .i64 z2] := Blk.new wr _ _
                      have hga2 : wr.heap.size ≠ ga := by have := Blk.lt HTA.out; omega
                      have hz2 := hz1.far (p := ⟨ga, (z1 / 2).toNat, none⟩) hga2 (.bool true)
                      have hz3 := hz2.far (p := ⟨ga, (z2 / 2).toNat, none⟩) hga2 (.bool true)
                      have HZ1 := Lib.hid (And.intro (hz1.cell 1) (hz1.cell 2))
                      have HZ2 := Lib.hid (And.intro (hz2.cell 1) (hz2.cell 2))
                      have HZ3 := Lib.hid (And.intro (hz3.cell 1) (hz3.cell 2))
                      have HCA1 := Lib.hid (And.intro (hT1.cell hb1) (And.intro (Blk.frozen hT1 (z1 / 2).toNat) (Blk.lt hT1)))
                      have HCA2 := Lib.hid (And.intro (hT2d.cell hy2b) (And.intro (Blk.frozen hT2d (z2 / 2).toNat) (Blk.lt hT2d)))
                      have HTN := Lib.hid (hT2.set_ (z2 / 2).toNat true)
                      have HBN : Hid (Below ga W1 (((wr.alloc (.cells #[.int .i64 z0, .int .i64 z1, .int .i64 z2] 68)).drew.setCell ⟨ga, (z1 / 2).toNat, none⟩ (.bool true)).setCell ⟨ga, (z2 / 2).toNat, none⟩ (.bool true))) := Lib.hid ((HBA.out.drew.setCell (Nat.le_refl _) _).setCell (Nat.le_refl _) _)
                      clear hcell hz hTA1 ib0 ib1 ib2 hb0 gb0 hb1 gb1 hb2 gb2 hset1 hy2b hT1 hT2 hT2d hz1 hz2 hz3
                      go_upto_region 17 with (fail)
                      refine wp_region_T (by kernel_rfl) (fun w' => w'.cell? ⟨wr.heap.size, 1, none⟩ = some (.int .i64 z1) ∧ w'.cell? ⟨wr.heap.size, 2, none⟩ = some (.int .i64 z2)) 12 ?_
                      have hHeld := HZ1.out
                      refine wpAnyT_take (i := 0) (v := ?v0r14q3) rfl (by kernel_rfl) (fun _ _ _ h => h) (by rfl) hHeld ?h0r14q3 ?_
                      case h0r14q3 => (intro w' hSw; (try dsimp only at hSw); go_simp; try with_reducible rfl)
                      (try simp only [Act.put, List.setIfInBounds_toArray])
                      refine wpAnyT_take (i := 1) (v := ?v1r14q3) rfl (by kernel_rfl) (fun _ _ _ h => h) (by rfl) hHeld ?h1r14q3 ?_
                      case h1r14q3 => (intro w' hSw; (try dsimp only at hSw); go_simp; try with_reducible rfl)
                      (try simp only [Act.put])
                      refine wpAnyT_take (i := 2) (v := ?v2r14q3) rfl (by kernel_rfl) (fun _ _ _ h => h) (by rfl) hHeld ?h2r14q3 ?_
                      case h2r14q3 => (intro w' hSw; (try dsimp only at hSw); go_simp; try with_reducible rfl)
                      (try simp only [Act.put])
                      refine wpAnyT_take (i := 3) (v := ?v3r14q3) rfl (by kernel_rfl) (fun _ _ _ h => h) (by rfl) hHeld ?h3r14q3 ?_
                      case h3r14q3 => (intro w' hSw; (try dsimp only at hSw); go_simp; try with_reducible rfl)
                      (try simp only [Act.put])
                      refine wpAnyT_take (i := 4) (v := ?v4r14q3) rfl (by kernel_rfl) (fun _ _ _ h => h) (by rfl) hHeld ?h4r14q3 ?_
                      case h4r14q3 => (intro w' hSw; (try dsimp only at hSw); go_simp; try with_reducible rfl)
                      (try simp only [Act.put])
                      refine wpAnyT_take (i := 5) (v := ?v5r14q3) rfl (by kernel_rfl) (fun _ _ _ h => h) (by rfl) hHeld ?h5r14q3 ?_
                      case h5r14q3 => (intro w' hSw; (try dsimp only at hSw); go_simp; try with_reducible rfl)
                      (try simp only [Act.put])
                      refine wpAnyT_take (i := 6) (v := ?v6r14q3) rfl (by kernel_rfl) (fun _ _ _ h => h) (by rfl) hHeld ?h6r14q3 ?_
                      case h6r14q3 => (intro w' hSw; (try dsimp only at hSw); go_simp; try with_reducible rfl)
                      (try simp only [Act.put])
                      refine wpAnyT_take (i := 7) (v := ?v7r14q3) rfl (by kernel_rfl) (fun _ _ _ h => h) (by rfl) hHeld ?h7r14q3 ?_
                      case h7r14q3 => (intro w' hSw; (try dsimp only at hSw); go_simp; try with_reducible rfl)
                      (try simp only [Act.put])
                      refine wpAnyT_take (i := 8) (v := ?v8r14q3) rfl (by kernel_rfl) (fun _ _ _ h => h) (by rfl) hHeld ?h8r14q3 ?_
                      case h8r14q3 => (intro w' hSw; (try dsimp only at hSw); go_simp; try with_reducible rfl)
                      (try simp only [Act.put])
                      clear hHeld
                      obtain ⟨k1, k2, k3⟩ := HCA1.out
                      refine wpAnyT_one (i := 9) rfl (by kernel_rfl) (fun K hK => ?_)
                      go_simp
                      refine hK.out _ _ (fun _ => HZ2.out) ?_
                      clear hK K k1 k2 k3
                      (try simp only [Act.put, List.setIfInBounds_toArray, List.set_cons_zero, List.set_cons_succ])
                      have hHeld := HZ2.out
                      refine wpAnyT_take (i := 10) (v := ?v10r14q4) rfl (by kernel_rfl) (fun _ _ _ h => h) (by rfl) hHeld ?h10r14q4 ?_
                      case h10r14q4 => (intro w' hSw; (try dsimp only at hSw); go_simp; try with_reducible rfl)
                      (try simp only [Act.put, List.setIfInBounds_toArray])
                      clear hHeld
                      obtain ⟨k1, k2, k3⟩ := HCA2.out
                      refine wpAnyT_one (i := 11) rfl (by kernel_rfl) (fun K hK => ?_)
                      go_simp
                      refine hK.out _ _ (fun _ => HZ3.out) ?_
                      clear hK K k1 k2 k3
                      (try simp only [Act.put, List.setIfInBounds_toArray, List.set_cons_zero, List.set_cons_succ])
                      refine wpAnyT_done (by kernel_rfl) ?_
                      go_wp2
                      go_roundg (nA - (q + 1))
                      case measure => omega
                      case rel => exact ⟨q + 1, _, true, by omega, rfl, by go_num, rfl, HBN.out, HTN.out, HSN.out, HRN.out, Nat.le_of_lt HLT.out, (fun _ => HLT.out), (fun h => by cases h)⟩
              · have hqe : nA = q := by omega
                subst hqe
                obtain ⟨B1, hB1⟩ : ∃ B1, B = B1 := ⟨_, rfl⟩
                obtain ⟨ag1, hag1⟩ : ∃ a, ag = a := ⟨_, rfl⟩
                rw [hB1, hag1] at HCF
                rw [hB1] at HTA HSP HRT
                rw [hag1]
                rw [List.take_of_length_le (by rw [HNA.out]; exact Nat.le_refl _)] at HCF
                clear hlt hq
                go_wp2
                go_roundg (if ag1 = true then cf B1 + 1 else 0)
                case rel => exact ⟨B1, ag1, rfl, rfl, HB.out, HTA.out, HSP.out, HRT.out, HCF.out.2.2⟩
                case measure =>
                  cases ag1 with
                  | true => have := HCF.out.2.1 rfl; simp; omega
                  | false => simp
  · have hq : (r != 0) = true := by simpa using h0
    have e1 : coneF C L = [] := if_neg (by rw [hkr]; exact h0)
    have e2 : coneN C L = 0 := if_neg (by rw [hkr]; exact h0)
    rw [hkr, e1, e2]
    clear e1 e2 h0 hkr hr
    go_enter Try.func16, Try.ntmps16
    go_upto_region 1 with (fail)
    rw [HW0.out]
    go_wp2_with (first
      | (refine wpList_load_row rfl 29 (.tmp 2) rfl w.heap.size rfl 29 (V.cells C.max) (0, 0) _ HBX.out Try.underlying29 rfl (by kernel_rfl) ?_)
      | (go_at_call 53; refine HCK.out.mono ?_; rintro e w1 ⟨hb1, rv, rfl, _, _⟩; have HB1 := Lib.hid hb1; have HR1 := Lib.hid (H1.out.below hb1 H1.out.lt); have r0 := HR1.out.cell 0; have r1 := HR1.out.cell 1; have rf0 := HR1.out.frozen 0; have rf1 := HR1.out.frozen 1; have rl := HR1.out.lt; simp only [List.getElem?_toArray, List.getElem?_cons_zero, List.getElem?_cons_succ] at r0 r1; clear hb1))
    have hw9 : Blk ((w1.setCell ⟨w.heap.size + 1, 0, none⟩ (.int .i64 0)).setCell ⟨w.heap.size + 1, 1, none⟩ (.slice none 0 0)) (w.heap.size + 1) 34 #[.int .i64 0, .slice none 0 0] := by
      have := (HR1.out.set_ 0 (.int .i64 0)).set_ 1 (.slice none 0 0)
      simpa using this
    refine bodyPost_ret (results_cell_oneE (fn := Try.f16) (p := 4) (q := 5) rfl _ _ (w.heap.size + 1) 34 #[.int .i64 0, .slice none 0 0] (0, 0) _ rfl hw9 Try.underlying34 rfl (by kernel_rfl) (.int .i64 r) rfl) rfl ?_
    exact ⟨((bt HB0.out (Nat.le_refl _) HB1.out).setCell (by simp) _).setCell (by simp) _, _, [], rfl, ⟨rfl, World.ownsRow_nil _ _ _ _, fun i u zs hu _ => by simp at hu⟩⟩
end Go.Proofs.Ytdodhbfplglbkaa

namespace Go.Proofs.Ytdodhbfplglbkaa
open Go.RowKit

/-- One world keeps what another had but for some blocks. -/
structure KeepX (S : Nat → Prop) (wx wy : World) : Prop where
  os : wy.os = wx.os
  tape : wy.tape = wx.tape
  output : wy.output = wx.output
  size : wx.heap.size ≤ wy.heap.size
  blk : ∀ k, k < wx.heap.size → ¬ S k → wy.heap[k]? = wx.heap[k]?
theorem KeepX.refl (S : Nat → Prop) (w : World) : KeepX S w w := ⟨rfl, rfl, rfl, Nat.le_refl _, fun _ _ _ => rfl⟩
theorem KeepX.trans {S : Nat → Prop} {a b c : World} (h1 : KeepX S a b) (h2 : KeepX S b c) : KeepX S a c :=
  ⟨h2.os.trans h1.os, h2.tape.trans h1.tape, h2.output.trans h1.output, Nat.le_trans h1.size h2.size, fun k hk hn => (h2.blk k (Nat.lt_of_lt_of_le hk h1.size) hn).trans (h1.blk k hk hn)⟩
theorem KeepX.grown {S : Nat → Prop} {a b : World} {r : Option Nat} (h : a.grownBy b r) (hr : ∀ k, r = some k → S k) : KeepX S a b :=
  ⟨h.os, h.tape, h.output, h.size, fun k hk hn => h.block k hk (fun e => hn (hr k e.symm))⟩
theorem KeepX.set_ {S : Nat → Prop} {a b : World} (h : KeepX S a b) {g : Nat} (hg : S g) (i : Nat) (u : Value) : KeepX S a (b.setCell ⟨g, i, none⟩ u) :=
  ⟨h.os, h.tape, h.output, by simpa [World.setCell] using h.size, fun k hk hn => (Below.heap_setCell _ _ _ _ (by intro e; subst e; exact hn hg)).trans (h.blk k hk hn)⟩
theorem KeepX.alloc {S : Nat → Prop} {a b : World} (h : KeepX S a b) (o : Obj) : KeepX S a (b.alloc o) :=
  ⟨h.os, h.tape, h.output, Nat.le_trans h.size (by simp), fun k hk hn => (Below.heap_alloc _ _ _ (Nat.lt_of_lt_of_le hk h.size)).trans (h.blk k hk hn)⟩
theorem KeepX.drew {S : Nat → Prop} {a b : World} (h : KeepX S a b) : KeepX S a b.drew := ⟨h.os, h.tape, h.output, h.size, h.blk⟩

theorem KeepX.below {S : Nat → Prop} {B : Nat} {X a b : World} (h : Below B X a) (k : KeepX S a b) (hB : B ≤ a.heap.size) (hS : ∀ j, S j → B ≤ j) : Below B X b :=
  h.trans ⟨k.os, k.tape, k.output, k.size, fun j hj => k.blk j (by omega) (fun e => by have := hS j e; omega)⟩
theorem CRow.kept {S : Nat → Prop} {w w' : World} {B : Nat} {v : Value} {us : List Value} {F : List (List Int)} (h : CRow w B v us F) (k : KeepX S w w') (hS : ∀ j, S j → j < B) : CRow w' B v us F :=
  ⟨h.ul, own_of_block h.own fun g hg => k.blk g (h.own.lt g hg).2 (fun e => by have := hS g e; have := (h.own.lt g hg).1; omega),
    fun i u zs hu hz => own_of_block (h.each i u zs hu hz) fun g hg => k.blk g ((h.each i u zs hu hz).lt g hg).2 (fun e => by have := hS g e; have := ((h.each i u zs hu hz).lt g hg).1; omega), h.ap⟩
theorem DRow.kept {S : Nat → Prop} {w w' : World} {B : Nat} {v : Value} {us : List Value} {F : List (List Int)} (h : DRow w B v us F) (k : KeepX S w w') (hS : ∀ j, S j → j < B) : DRow w' B v us F :=
  ⟨h.ul, own_of_block h.own fun g hg => k.blk g (h.own.lt g hg).2 (fun e => by have := hS g e; have := (h.own.lt g hg).1; omega),
    fun i u zs hu hz => own_of_block (h.each i u zs hu hz) fun g hg => k.blk g ((h.each i u zs hu hz).lt g hg).2 (fun e => by have := hS g e; have := ((h.each i u zs hu hz).lt g hg).1; omega)⟩
theorem own_set1X {w : World} {B n cap g q : Nat} {t : TypeId} {xs : List Value} (h : w.ownsRow B t 1 (.slice (some ⟨g, 0, none⟩) n cap) n xs) (hq : q < n) (u : Value) :
    B ≤ g ∧ (∃ cs, Blk w g t cs) ∧ (∀ i, w.frozen? ⟨g, i, none⟩ = false) ∧ w.cell? ⟨g, q, none⟩ = xs[q]? ∧ (w.setCell ⟨g, q, none⟩ u).ownsRow B t 1 (.slice (some ⟨g, 0, none⟩) n cap) n (xs.set q u) := by
  have hl := h.1
  rcases h.2 with ⟨hv, hn0⟩ | ⟨g', cap', cur, hv, hB, hh, h1, h2, h3, h4⟩
  · omega
  · injection hv with e1 e2 e3
    injection e1 with e1
    injection e1 with e1
    subst e1 e3
    have hb : Blk w g t cur := hh
    refine ⟨hB, ⟨cur, hb⟩, fun i => hb.frozen i, ?_, by simpa using hl, .inr ⟨g, cap, cur.setIfInBounds q u, rfl, hB, Blk.set_ hb q u, h1, h2, by simpa using h3, ?_⟩⟩
    · rw [hb.cell, ← h4, List.getElem?_take, if_pos (by omega), Array.getElem?_toList]
    · rw [Array.toList_setIfInBounds, ← h4, List.take_set]
theorem own_farX {w : World} {B k n g : Nat} {t t' : TypeId} {v : Value} {xs : List Value} {cs : Array Value} (h : w.ownsRow B t k v n xs) (hb : Blk w g t' cs) (ht : t ≠ t') (i : Nat) (u : Value) : (w.setCell ⟨g, i, none⟩ u).ownsRow B t k v n xs :=
  own_of_block h fun g2 hg2 => Below.heap_setCell _ _ _ _ (fun e => own_blk_ne h hb ht (by rw [hg2, e]))
/-- What memory holds while a formula of one's own is written over. -/
structure SpC (W1 wx : World) (B N : Nat) (v : Value) (us : List Value) (F : List (List Int)) (k : Nat) : Prop where
  keep : KeepX (fun j => B ≤ j ∧ j < N) W1 wx
  row : ∃ vs : List Value, vs.length = us.length ∧ wx.ownsRow B 81 1 v us.length vs ∧ ∀ i, k ≤ i → vs[i]? = us[i]?
  each : ∀ (i : Nat) (u : Value) (zs : List Int), k ≤ i → us[i]? = some u → F[i]? = some zs → wx.ownsRow B 3 1 u zs.length (zs.flatMap encI)
theorem SpC.put {W1 wx w2 : World} {B N g c k : Nat} {us : List Value} {F : List (List Int)} (h : SpC W1 wx B N (.slice (some ⟨g, 0, none⟩) us.length c) us F k) (h0 : CRow W1 B (.slice (some ⟨g, 0, none⟩) us.length c) us F) (hNg : g < N) (_hN : N ≤ W1.heap.size) (hk : k < us.length) (u : Value) (zs : List Int) (hu : us[k]? = some u) (hz : F[k]? = some zs)
    (hlt : ∀ (i : Nat) (x : Value), us[i]? = some x → ∀ j, x.ownBlock = some j → B ≤ j ∧ j < N) (hg : wx.grownBy w2 u.ownBlock) (o : Obj) (x : Value) : SpC W1 ((w2.setCell ⟨g, k, none⟩ x).alloc o) B N (.slice (some ⟨g, 0, none⟩) us.length c) us F (k + 1) := by
  obtain ⟨vs, hvl, hvo, hvs⟩ := h.row
  have hB : B ≤ g := (hvo.lt g rfl).1
  have ho2 : w2.ownsRow B 81 1 (.slice (some ⟨g, 0, none⟩) us.length c) us.length vs := own_other hvo (h.each k u zs (Nat.le_refl _) hu hz) (by decide) hg
  obtain ⟨_, ⟨cs, hcs⟩, _, _, ho4⟩ := own_set1X ho2 (q := k) hk x
  refine ⟨((h.keep.trans (KeepX.grown hg (fun j hj => hlt k u hu j hj))).set_ ⟨hB, hNg⟩ k x).alloc o, ⟨vs.set k x, by rw [List.length_set, hvl], own_below ho4 ((Below.refl _ _).alloc (Nat.le_refl _) o), fun i hi => by rw [List.getElem?_set_ne (by omega)]; exact hvs i (by omega)⟩, fun i u' zs' hi hu' hz' => ?_⟩
  have h1 := h.each i u' zs' (by omega) hu' hz'
  have h2 : w2.ownsRow B 3 1 u' zs'.length (zs'.flatMap encI) := own_of_block h1 fun j hj => hg.block j (h1.lt j hj).2 (fun e => h0.ap k i u u' (by omega) hu hu' j e.symm hj)
  exact own_below (own_farX h2 hcs (by decide) k x) ((Below.refl _ _).alloc (Nat.le_refl _) o)

set_option maxHeartbeats 2000000 in
set_option maxRecDepth 100000 in
theorem SpoilCnf_any (w0 w : World) (B : Nat) (v : Value) (us : List Value) (F : List (List Int)) (n mk : Int) (h0 : CRow w0 B v us F) (h : CRow w B v us F) (hN : w0.heap.size ≤ w.heap.size) :
    Calls Try.prog 18 #[.agg #[.int .i64 n, v], .int .i64 mk] w fun e w' => e = .returned (.tuple #[]) ∧ KeepX (fun k => B ≤ k ∧ k < w0.heap.size) w w' := by
  have HN := Lib.hid hN
  have HLT : Hid (∀ (i : Nat) (x : Value), us[i]? = some x → ∀ j, x.ownBlock = some j → B ≤ j ∧ j < w0.heap.size) := Lib.hid (fun i x hi j hj => by
    obtain ⟨zs, hz⟩ : ∃ zs, F[i]? = some zs := ⟨_, List.getElem?_eq_getElem (by rw [← h0.ul]; exact (List.getElem?_eq_some_iff.1 hi).1)⟩
    exact (h0.each i x zs hi hz).lt j hj)
  have HUL := Lib.hid h0.ul
  have HGN : Hid (∀ j, v.ownBlock = some j → B ≤ j ∧ j < w0.heap.size) := Lib.hid (fun j hj => h0.own.lt j hj)
  have hb1 : Below w.heap.size w (w.alloc (.cells #[.int .i64 n, v] 34)) := (Below.refl _ _).alloc (Nat.le_refl _) _
  have hr1 := h.below hb1
  obtain ⟨W1, hW1⟩ : ∃ W1, w.alloc (.cells #[.int .i64 n, v] 34) = W1 := ⟨_, rfl⟩
  have HX : Hid (Blk W1 w.heap.size 34 #[.int .i64 n, v]) := Lib.hid (by rw [← hW1]; exact Blk.new w _ _)
  have HS1 : Hid (w.heap.size < W1.heap.size) := Lib.hid (by rw [← hW1]; simp)
  have HKW : Hid (KeepX (fun k => B ≤ k ∧ k < w0.heap.size) w W1) := Lib.hid (by rw [← hW1]; exact (KeepX.refl _ w).alloc _)
  rw [hW1] at hr1
  have HW1 := Lib.hid hW1
  have HR1 := Lib.hid hr1
  obtain ⟨N, hNN⟩ : ∃ N, w0.heap.size = N := ⟨_, rfl⟩
  rw [hNN] at HN HLT HGN HKW ⊢
  obtain ⟨A, c, hv⟩ := own_slice_k hr1.own
  have hml : us.length ≤ maxLen := by
    rcases hr1.own.2 with ⟨_, h0⟩ | ⟨_, cap, _, _, _, _, h1, h2, _⟩
    · omega
    · omega
  unfold maxLen at hml
  subst hv
  have c0 := HX.out.cell 1
  simp only [List.getElem?_toArray, List.getElem?_cons_zero, List.getElem?_cons_succ] at c0
  clear h0 h hb1 hr1 hW1 hNN hN
  go_enter Try.func18, Try.ntmps18
  go_upto_region 1 with (fail)
  rw [HW1.out]
  go_wp2
  go_loopg [4] us.length (fun k j wx => ∃ q : Nat, q ≤ us.length ∧ k = us.length - q ∧ j = .int .i64 q ∧ SpC W1 wx B N (.slice A us.length c) us F q)
  case atStart => exact ⟨0, Nat.zero_le _, rfl, rfl, KeepX.refl _ _, ⟨us, rfl, HR1.out.own, fun i _ => rfl⟩, fun i u zs _ hu hz => HR1.out.each i u zs hu hz⟩
  case round =>
    obtain ⟨q, hq, hgk, rfl, hst⟩ := hrel
    subst hgk
    have HST := Lib.hid hst
    have HXW : Hid (Blk wr w.heap.size 34 #[.int .i64 n, .slice A us.length c]) := Lib.hid ((hst.keep.blk w.heap.size HS1.out (by have := HN.out; omega)).trans HX.out)
    clear c0 hst
    have c0 := HXW.out.cell 1
    simp only [List.getElem?_toArray, List.getElem?_cons_zero, List.getElem?_cons_succ] at c0
    by_cases hlt : q < us.length
    · obtain ⟨u, hu⟩ : ∃ u, us[q]? = some u := ⟨_, List.getElem?_eq_getElem hlt⟩
      obtain ⟨zs, hz⟩ : ∃ zs, F[q]? = some zs := ⟨_, List.getElem?_eq_getElem (by rw [← HUL.out]; exact hlt)⟩
      obtain ⟨vs, hvl, hvo, hvs⟩ := HST.out.row
      obtain ⟨gj, capj, ej, hBg, _, _, hcj, _, _⟩ := own_cells_v hvo (by omega)
      injection ej with e1 e2 e3
      subst e1 e3
      have o0 := hcj q u ((hvs q (Nat.le_refl _)).trans hu)
      have HE := Lib.hid (HST.out.each q u zs (Nat.le_refl _) hu hz)
      have HSP := Lib.hid (SpoilInts_any wr B zs.length u _ mk HE.out)
      have HU := Lib.hid hu
      have HZ := Lib.hid hz
      have HNX : Hid (∀ w2, wr.grownBy w2 u.ownBlock → Blk w2 w.heap.size 34 #[.int .i64 n, .slice (some ⟨gj, 0, none⟩) us.length c] ∧ ∃ u2, w2.cell? ⟨gj, q, none⟩ = some u2 ∧ w2.frozen? ⟨gj, q, none⟩ = false ∧ gj < w2.heap.size) := Lib.hid (fun w2 hg => by
        refine ⟨(hg.block w.heap.size HXW.out.lt (fun e => own_blk_ne HE.out HXW.out (by decide) e.symm)).trans HXW.out, ?_⟩
        have ho2 := own_other hvo HE.out (by decide) hg
        obtain ⟨gj2, capj2, ej2, _, _, _, hcj2, hfj2, _⟩ := own_cells_v ho2 (by omega)
        injection ej2 with e1 e2 e3
        injection e1 with e1
        injection e1 with e1
        subst e1
        exact ⟨u, hcj2 q u ((hvs q (Nat.le_refl _)).trans hu), hfj2 q, (ho2.lt gj rfl).2⟩)
      have HPUT := Lib.hid (fun (w2 : World) (hg : wr.grownBy w2 u.ownBlock) (o : Obj) (x : Value) => HST.out.put HR1.out (HGN.out gj rfl).2 (Nat.le_trans HN.out (Nat.le_of_lt HS1.out)) hlt u zs hu hz HLT.out hg o x)
      clear hcj hu hz hvo hvs hvl
      go_wp2_with (go_at_call 54; refine HSP.out.mono ?_; rintro e w2 ⟨rfl, hg⟩; have HG := Lib.hid hg; obtain ⟨hx2, u2, hu2, hf2, hl2⟩ := HNX.out w2 hg; have HX2 := Lib.hid hx2; clear c0 o0 hg hx2; have c0 := HX2.out.cell 1; simp only [List.getElem?_toArray, List.getElem?_cons_zero, List.getElem?_cons_succ] at c0)
      go_roundg (us.length - (q + 1))
      case measure => omega
      case rel => exact ⟨q + 1, by omega, rfl, by go_num, HPUT.out w2 HG.out _ _⟩
    · have hqe : us.length = q := by omega
      subst hqe
      go_wp2
      go_end0
      exact ⟨rfl, HKW.out.trans HST.out.keep⟩
end Go.Proofs.Ytdodhbfplglbkaa

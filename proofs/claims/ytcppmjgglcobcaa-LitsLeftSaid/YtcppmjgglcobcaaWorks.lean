/- The statements' own examples: trestlelaw01.works answers true in whatever world. -/
import Derived.Test.YtcppmjgglcobcaaRes2
namespace Go.Proofs.Ytcppmjgglcobcaa
open Go.RowKit Go.Shelf Go.Lib Go.Sort

theorem nf_of {zs ns ms : List Int} (h : NF zs ns) (h1 : ms.Pairwise (fun a b => absI a < absI b)) (h2 : ∀ x, x ∈ ms ↔ x ∈ zs) : ns = ms := h.unique ⟨h1, h2⟩

theorem isF_small {x : Int} (h0 : x ≠ 0) (h1 : -9 ≤ x) (h2 : x ≤ 9) : isF x = true := isF_mid h0 (by omega) (by omega)

theorem ncl_two {a b : Int} (h : absI a < absI b) (ha : isF a = true) (hb : isF b = true) : NCl [a, b] := ⟨by simp [h], by simp [ha, hb]⟩

theorem ints_new2 (w : World) (a b : Int) : Ints (w.alloc (.cells #[.int .i64 a, .int .i64 b] 3)) (.slice (some ⟨w.heap.size, 0, none⟩) 2 2) [a, b] := by
  refine .inr ⟨w.heap.size, 0, 2, rfl, by simp, by simp [maxLen], by simp, fun i hi => ?_⟩
  rw [cell_of_row _ _ _ #[.int .i64 a, .int .i64 b] 3 (0, 0) (heap_alloc_new w _)]
  have : i = 0 ∨ i = 1 := by simp at hi; omega
  rcases this with rfl | rfl <;> rfl

theorem without_ex (w : World) (v : Value) (ns ds : List Int) (t : Int) (h : Ints w v ns) (hl : ns.length ≤ 16384) (hd : drop1 ns t = ds) :
    Calls Try.prog 58 #[v, .int .i64 t] w fun e w' => ∃ v', e = .returned v' ∧ Below w.heap.size w w' ∧ w'.ownsRow w.heap.size 3 1 v' ds.length (ints ds) ∧ ∃ A c, v' = .slice A ds.length c ∧ Reads w' w'.heap.size 1 A ds.length (ints ds) := by
  subst hd
  refine (without_any w v ns t h hl).mono ?_
  rintro e w' ⟨v', rfl, hb, ho, _⟩
  exact ⟨v', rfl, hb, ho, (own_ints ho).reads⟩

theorem own_owns {w : World} {B : Nat} {v : Value} {zs : List Int} (h : w.ownsRow B 3 1 v zs.length (ints zs)) (hv : v ≠ .slice none 0 0) : Owns B w v zs := by
  rcases h.2 with ⟨rfl, _⟩ | ⟨g, cap, cur, rfl, r⟩
  · exact absurd rfl hv
  · exact ⟨g, cap, rfl, h⟩

/-- Two steps, one behind the other. -/
theorem bt {B : Nat} {a b c : World} (h1 : Below B a b) (hB : B ≤ a.heap.size) (h2 : Below b.heap.size b c) : Below B a c := h1.trans (h2.mono (Nat.le_trans hB h1.size))

set_option maxHeartbeats 1000000 in
theorem Resolve_ex (w : World) (v u : Value) (h : Ints w v [1, 2]) (h' : Ints w u [-1, 3]) :
    Calls Try.prog 42 #[v, u, .int .i64 1] w fun e w' => ∃ v', e = .returned (.tuple #[v', .int .i64 0]) ∧ Below w.heap.size w w' ∧ Owns w.heap.size w' v' [2, 3] := by
  have f1 : isF 1 = true := isF_small (by omega) (by omega) (by omega)
  have f2 : isF 2 = true := isF_small (by omega) (by omega) (by omega)
  have f3 : isF (-1) = true := isF_small (by omega) (by omega) (by omega)
  have f4 : isF 3 = true := isF_small (by omega) (by omega) (by omega)
  have a1 : absI 1 < absI 2 := by decide
  have a2 : absI (-1) < absI 3 := by decide
  have a3 : absI 2 < absI 3 := by decide
  have e1 : wrongE [1, 2] = 0 := wrongE_ok (by simp) (by simp [f1, f2])
  have e2 : wrongE [-1, 3] = 0 := wrongE_ok (by simp) (by simp [f3, f4])
  have e3 : wrongE [2, 3] = 0 := wrongE_ok (by simp) (by simp [f2, f4])
  have t1 : taut [1, 2] = false := taut_false.2 (by simp)
  have t2 : taut [-1, 3] = false := taut_false.2 (by simp)
  have t3 : taut [2, 3] = false := taut_false.2 (by simp)
  have hp : pairE [1, 2] [-1, 3] = 0 := pairE_ok e1 e2 t1 t2
  have hn : Calls Try.prog 54 #[v, u] w fun e w' => ∃ vm vn, e = .returned (.tuple #[vm, vn, .int .i64 0]) ∧ Below w.heap.size w w' ∧ Owns w.heap.size w' vm [1, 2] ∧ Owns w.heap.size w' vn [-1, 3] := by
    refine (normals_any w v u _ _ h h').mono ?_
    rintro e w' ⟨hb, (⟨h1, _⟩ | ⟨_, _, _, m, n, vm, vn, rfl, hm, hn, hom, hon⟩)⟩
    · exact absurd hp h1
    · obtain rfl := nf_of (ms := [1, 2]) hm (by simp [a1]) (fun _ => Iff.rfl)
      obtain rfl := nf_of (ms := [-1, 3]) hn (by simp [a2]) (fun _ => Iff.rfl)
      exact ⟨vm, vn, rfl, hb, hom, hon⟩
  have n1 := Lib.hid (ncl_two a1 f1 f2)
  have n2 := Lib.hid (ncl_two a2 f3 f4)
  have E3 := Lib.hid e3
  have T3 := Lib.hid t3
  have A3 := Lib.hid a3
  have d1 : decide ((1 : Int) ∈ [1, 2]) = true := by decide
  have d2 : decide ((-1 : Int) ∈ [-1, 3]) = true := by decide
  have D1 := Lib.hid d1
  have D2 := Lib.hid d2
  have k1 : drop1 [1, 2] 1 = [2] := by decide
  have k2 : drop1 [-1, 3] (-1) = [3] := by decide
  have K1 := Lib.hid k1
  have K2 := Lib.hid k2
  obtain ⟨i0, hi0, hz0, hz1, hz2⟩ := info_parts int_info
  clear h h' f1 f2 f3 f4 a1 a2 a3 e1 e2 e3 t1 t2 t3 hp d1 d2 k1 k2
  go_enter Try.func42, Try.ntmps42
  go_wp2_with (first
    | (go_at_call 54; refine hn.mono ?_; rintro e w1 ⟨vm, vn, rfl, hb1, hom, hon⟩; have HOM := Lib.hid hom; have HON := Lib.hid hon; clear hom hon)
    | (go_at_call 38; refine (isFormulas_any 1 _).mono ?_; rw [isF_small (x := 1) (by omega) (by omega) (by omega)]; rintro e w' ⟨rfl, rfl⟩)
    | (go_at_call 57; with_reducible refine (has_any w1 _ vm _ 1 HOM.out n1.out (by simp)).mono ?_; rw [D1.out]; rintro e w2 ⟨rfl, hb2⟩)
    | (go_at_call 57; with_reducible refine (has_any w2 _ vn _ (-1) (HON.out.below hb2) n2.out (by simp)).mono ?_; rw [D2.out]; rintro e w3 ⟨rfl, hb3⟩)
    | (go_at_call 58; with_reducible refine (without_ex w3 vm _ _ 1 ((HOM.out.below hb2).below hb3).reads (by simp) K1.out).mono ?_; rintro e w4 ⟨v4, rfl, hb4, ho4, A4, c4, rfl, hr4⟩; have HO4 := Lib.hid ho4; clear ho4 hr4)
    | (go_at_call 58; with_reducible refine (without_ex w4 vn _ _ (-1) (((HON.out.below hb2).below hb3).below hb4).reads (by simp) K2.out).mono ?_; rintro e w5 ⟨v5, rfl, hb5, ho5, A5, c5, rfl, hr5⟩; have HR5 := Lib.hid hr5; clear ho5 hr5)
    | (at_builtin; refine wpList_append_any _ rfl (.tmp 40) (.tmp 44) _ rfl w3.heap.size 3 i0 _ 1 8 Try.underlying28 hi0 hz0 hz1 hz2 rfl (by omega) (.slice A4 1 c4) 1 (ints [2]) rfl (own_below HO4.out hb5) w5.heap.size A5 1 c5 (ints [3]) rfl HR5.out (ints_one _) (by simp [maxLen]) (by omega) (Nat.le_trans hb4.size hb5.size) ?_; intro v6 w6 hown6 hg6 hat6; have HO6 := Lib.hid hown6; have HG6 := Lib.hid hg6; clear hown6 hg6 hat6)
    | (go_at_call 44; refine (normal_nf w6 v6 [2, 3] (own_ints HO6.out) E3.out T3.out).mono ?_; rintro e w7 ⟨ns, v7, rfl, hb7, hnf, hown7⟩; have HNF := Lib.hid hnf; have HO7 := Lib.hid hown7; clear hnf hown7))
  go_ret2
  obtain rfl := nf_of (ms := [2, 3]) HNF.out (by simp [A3.out]) (fun _ => Iff.rfl)
  have hb5' : Below w.heap.size w w5 := bt (bt (bt (bt hb1 (Nat.le_refl _) hb2) (Nat.le_refl _) hb3) (Nat.le_refl _) hb4) (Nat.le_refl _) hb5
  have h03 : w.heap.size ≤ w3.heap.size := Nat.le_trans hb1.size (Nat.le_trans hb2.size hb3.size)
  have hb6 : Below w.heap.size w w6 := hb5'.grown HG6.out hb5'.size (fun k hk => Nat.le_trans h03 (HO4.out.lt k hk).1)
  exact ⟨v7, rfl, bt hb6 (Nat.le_refl _) hb7, HO7.out.mono hb6.size⟩

theorem Normal_ex (w : World) (v : Value) (h : Ints w v [1, -1]) : Calls Try.prog 18 #[v] w fun e w' => e = .returned (.tuple #[.slice none 0 0, .int .i64 10]) ∧ Below w.heap.size w w' := by
  have f1 : isF 1 = true := isF_small (by omega) (by omega) (by omega)
  have f3 : isF (-1) = true := isF_small (by omega) (by omega) (by omega)
  have e1 : wrongE [1, -1] = 0 := wrongE_ok (by simp) (by simp [f1, f3])
  have t1 : taut [1, -1] = true := taut_true.2 ⟨1, by simp, by simp⟩
  refine (Normal_any w v _ h).mono ?_
  rintro e w' ⟨hb, (⟨h1, _⟩ | ⟨_, _, rfl⟩ | ⟨_, h1, _⟩)⟩
  · exact absurd e1 h1
  · exact ⟨rfl, hb⟩
  · rw [t1] at h1; cases h1

theorem two_cells {B : Nat} {w : World} {v : Value} {a b : Int} (h : Owns B w v [a, b]) : ∃ g cap, v = .slice (some ⟨g, 0, none⟩) 2 cap ∧ 2 ≤ cap ∧ g < w.heap.size ∧ w.cell? ⟨g, 0, none⟩ = some (.int .i64 a) ∧ w.cell? ⟨g, 1, none⟩ = some (.int .i64 b) := by
  obtain ⟨g, cap, rfl, ho⟩ := h
  obtain ⟨g', cap', cur, he, hB, hg, hn, hm, _⟩ := own_form ho (by simp)
  cases he
  exact ⟨g, cap, rfl, by simpa using hn, (Array.getElem?_eq_some_iff.1 hg).1, own_cell ho 0 (by simp), own_cell ho 1 (by simp)⟩

theorem two_kept {w w' : World} {g : Nat} {a b : Int} {o : Obj} (hg : g < w.heap.size) (h0 : w.cell? ⟨g, 0, none⟩ = some (.int .i64 a)) (h1 : w.cell? ⟨g, 1, none⟩ = some (.int .i64 b)) (hb : Below (w.alloc o).heap.size (w.alloc o) w') :
    w'.cell? ⟨g, 0, none⟩ = some (.int .i64 a) ∧ w'.cell? ⟨g, 1, none⟩ = some (.int .i64 b) := by
  have hb' : Below w.heap.size w w' := ((Below.refl _ _).alloc (Nat.le_refl _) _).trans (hb.mono (by simp))
  exact ⟨(hb'.cell (p := ⟨g, 0, none⟩) hg).trans h0, (hb'.cell (p := ⟨g, 1, none⟩) hg).trans h1⟩

set_option maxHeartbeats 1000000 in
theorem works_any (w : World) : Calls Try.prog 16 #[] w fun e w' => e = .returned (.bool true) ∧ Below w.heap.size w w' := by
  have hto := To_yes 5 w (isC_mid (by omega) (by omega))
  rw [toV_odd (by omega)] at hto
  have hi1 : Ints ((w.alloc (.cells #[.int .i64 1, .int .i64 2] 3)).alloc (.cells #[.int .i64 (-1), .int .i64 3] 3)) (.slice (some ⟨w.heap.size, 0, none⟩) 2 2) [1, 2] := (ints_new2 w 1 2).below ((Below.refl _ _).alloc (Nat.le_refl _) _)
  have hi2 : Ints ((w.alloc (.cells #[.int .i64 1, .int .i64 2] 3)).alloc (.cells #[.int .i64 (-1), .int .i64 3] 3)) (.slice (some ⟨w.heap.size + 1, 0, none⟩) 2 2) [-1, 3] := by
    have := ints_new2 (w.alloc (.cells #[.int .i64 1, .int .i64 2] 3)) (-1) 3
    simpa using this
  have hres := Resolve_ex _ _ _ hi1 hi2
  have hb0 : Below w.heap.size w ((w.alloc (.cells #[.int .i64 1, .int .i64 2] 3)).alloc (.cells #[.int .i64 (-1), .int .i64 3] 3)) := ((Below.refl _ _).alloc (Nat.le_refl _) _).alloc (by simp) _
  have HB0 := Lib.hid hb0
  clear hi1 hi2 hb0
  go_enter Try.func16, Try.ntmps16
  go_wp2_with (first
    | (go_at_call 11; refine hto.mono ?_; rintro e w' ⟨rfl, rfl⟩)
    | (go_at_call 42; refine hres.mono ?_; rintro e w1 ⟨v1, rfl, hb1, ho1⟩; obtain ⟨g, cap, rfl, hcap, hg, hc0, hc1⟩ := two_cells ho1; have HB1 := Lib.hid hb1; have HG := Lib.hid hg; have HC0 := Lib.hid hc0; have HC1 := Lib.hid hc1; clear hb1 ho1 hg hc0 hc1)
    | (go_at_call 18; refine (Normal_ex _ _ (ints_new2 w1 1 (-1))).mono ?_; rintro e w2 ⟨rfl, hb2⟩; obtain ⟨hc0, hc1⟩ := two_kept HG.out HC0.out HC1.out hb2))
  go_ret
  exact ⟨rfl, bt (bt HB0.out (Nat.le_refl _) HB1.out) (Nat.le_refl _) (((Below.refl _ _).alloc (Nat.le_refl _) _).trans (hb2.mono (by simp)))⟩
end Go.Proofs.Ytcppmjgglcobcaa

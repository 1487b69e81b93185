/- LitsSubsumes: the walk of the statement's Go function, for any two clauses. -/
import Derived.Test.YtcppmjgglcobcaaPair2
import Derived.Test.YtcppmjgglcobcaaClauses
namespace Go.Proofs.Ytcppmjgglcobcaa
open Go.RowKit Go.Shelf Go.Lib Go.Sort

theorem str_fix (a b m n : List Int) : ∃ (ds : List Int) (ok : Bool), ∀ (F : Nat) (args : Array Value) (w : World), Calls Try.prog F args w (StrPost w a b m n) →
    Calls Try.prog F args w fun e w' => ∃ v, e = .returned (.tuple #[v, .bool ok, .int .i64 (pairE a b)]) ∧ Below w.heap.size w w' ∧ w'.ownsRow w.heap.size 3 1 v ds.length (ints ds) := by
  by_cases hc : pairE a b = 0 ∧ ∃ t, miss m n = [t] ∧ -t ∈ n
  · obtain ⟨hE, t, ht, htn⟩ := hc
    refine ⟨drop1 n (-t), true, fun F args w h => h.mono ?_⟩
    rintro e w' ⟨hb, v, ds, ok, rfl, ho, (⟨_, t', ht', _, rfl, rfl⟩ | ⟨h', _⟩)⟩
    · rw [ht] at ht'; cases ht'; exact ⟨v, rfl, hb, ho⟩
    · exact absurd ⟨hE, t, ht, htn⟩ h'
  · refine ⟨[], false, fun F args w h => h.mono ?_⟩
    rintro e w' ⟨hb, v, ds, ok, rfl, ho, (⟨h1, t', ht', h2, _⟩ | ⟨_, rfl, rfl⟩)⟩
    · exact absurd ⟨h1, t', ht', h2⟩ hc
    · exact ⟨v, rfl, hb, ho⟩

theorem pair_forms (a b : List Int) : ∃ m n, pairE a b = 0 → NF a m ∧ NF b n := by
  by_cases hE : pairE a b = 0
  · obtain ⟨h1, h2, h3, h4⟩ := pairE_zero hE
    obtain ⟨m, hm⟩ := nf_exists h1 h3
    obtain ⟨n, hn⟩ := nf_exists h2 h4
    exact ⟨m, n, fun _ => ⟨hm, hn⟩⟩
  · exact ⟨[], [], fun h => absurd h hE⟩

set_option maxHeartbeats 4000000 in
theorem subsumes_walk (w : World) (v u : Value) (a b : List Int) (h : Ints w v a) (h' : Ints w u b) (hz : a.length * 8 ≤ 140737488351232) (hz' : b.length * 8 ≤ 140737488351232) :
    Calls Try.prog 6 #[v, u] w fun e w' => e = .returned (.bool true) ∧ Below w.heap.size w w' := by
  have hlent := lent_any w v a h hz
  obtain ⟨m, n, hmn⟩ := pair_forms a b
  obtain ⟨ds, ok, hfix⟩ := str_fix a b m n
  have HI := Lib.hid h
  have HI' := Lib.hid h'
  have HMN := Lib.hid hmn
  have HFIX := Lib.hid hfix
  have hsub : ∀ (F : Nat) (args : Array Value) (w : World), Calls Try.prog F args w (SubPost w a b m n) → Calls Try.prog F args w fun e w' => e = .returned (.tuple #[.bool (if pairE a b = 0 then decide (miss m n = []) else false), .int .i64 (pairE a b)]) ∧ Below w.heap.size w w' :=
    fun F args w h => h.mono fun _ _ ⟨hb, he⟩ => ⟨he, hb⟩
  generalize (if pairE a b = 0 then decide (miss m n = []) else false) = q at hsub
  have HSUB := Lib.hid hsub
  have q1 : (q != q) = false := by simp
  have q2 : (q == q) = true := by simp
  have q3 : (ok != ok) = false := by simp
  have q4 : (ok == ok) = true := by simp
  generalize hE : pairE a b = E at HSUB HFIX
  have q5 : (E != E) = false := by simp
  have q6 : (E == E) = true := by simp
  have hz2 := hz'
  clear h h' hmn hfix hsub hz hE hz'
  go_enter Try.func6, Try.ntmps6
  go_wp2_with (first
    | (go_at_call 17; with_reducible refine hlent.mono ?_; rintro e w1 ⟨v1, rfl, hl1, hb1⟩; have HL1 := Lib.hid hl1; have HB1 := Lib.hid hb1; clear hl1 hb1)
    | (go_at_call 17; with_reducible refine (lent_any w1 u b (HI'.out.below HB1.out) hz2).mono ?_; rintro e w2 ⟨v2, rfl, hl2, hb2⟩; have HL2 := Lib.hid hl2; have HB2 := Lib.hid hb2; clear hl2 hb2)
    | (go_at_call 29; refine (HSUB.out _ _ _ (Subsumes_any w2 v1 v2 a b m n (HL1.out.below HB2.out).reads HL2.out.reads HMN.out)).mono ?_; rintro e w3 ⟨rfl, hb3⟩; have HB3 := Lib.hid hb3; clear hb3)
    | (go_at_call 30; refine (HSUB.out _ _ _ (RSubsumes_any w3 v u a b m n (((HI.out.below HB1.out).below HB2.out).below HB3.out) (((HI'.out.below HB1.out).below HB2.out).below HB3.out) HMN.out)).mono ?_; rintro e w4 ⟨rfl, hb4⟩; have HB4 := Lib.hid hb4; clear hb4)
    | (go_at_call 31; refine (HFIX.out _ _ _ (Strengthen_any w4 v1 v2 a b m n (((HL1.out.below HB2.out).below HB3.out).below HB4.out).reads ((HL2.out.below HB3.out).below HB4.out).reads HMN.out)).mono ?_; rintro e w5 ⟨v5, rfl, hb5, ho5⟩; have HB5 := Lib.hid hb5; have HO5 := Lib.hid ho5; clear hb5 ho5)
    | (go_at_call 32; refine (HFIX.out _ _ _ (RStrengthen_any w5 v u a b m n (((((HI.out.below HB1.out).below HB2.out).below HB3.out).below HB4.out).below HB5.out) (((((HI'.out.below HB1.out).below HB2.out).below HB3.out).below HB4.out).below HB5.out) HMN.out)).mono ?_; rintro e w6 ⟨v6, rfl, hb6, ho6⟩; have HB6 := Lib.hid hb6; have HO6 := Lib.hid ho6; clear hb6 ho6)
    | (go_at_call 22; refine (SameClause_eq w6 v5 v6 ds ds (own_ints (own_below HO5.out HB6.out)) (own_ints HO6.out) rfl).mono ?_; rintro e w7 ⟨rfl, hb7⟩; have HB7 := Lib.hid hb7; clear hb7)
    | (go_at_call 23; refine (SpoilInts_any w7 w4.heap.size ds.length v5 (ints ds) (-7) (own_below (own_below HO5.out HB6.out) HB7.out)).mono ?_; rintro e w8 ⟨rfl, hg8⟩; have HG8 := Lib.hid hg8; clear hg8; have hb47 : Below w4.heap.size w4 w7 := bt (bt HB5.out (Nat.le_refl _) HB6.out) (Nat.le_refl _) HB7.out; have HB48 : Hid (Below w4.heap.size w4 w8) := hb47.grown HG8.out hb47.size (fun k hk => (HO5.out.lt k hk).1); clear hb47)
    | (go_at_call 24; with_reducible refine (KeptInts_any w8 w.heap.size v1 v a ((((HL1.out.below HB2.out).below HB3.out).below HB4.out).below HB48.out) (((((HI.out.below HB1.out).below HB2.out).below HB3.out).below HB4.out).below HB48.out)).mono ?_; rintro e w9 ⟨rfl, hb9⟩; have HB9 := Lib.hid hb9; clear hb9)
    | (go_at_call 24; with_reducible refine (KeptInts_any w9 w1.heap.size v2 u b ((((HL2.out.below HB3.out).below HB4.out).below HB48.out).below HB9.out) ((((((HI'.out.below HB1.out).below HB2.out).below HB3.out).below HB4.out).below HB48.out).below HB9.out)).mono ?_; rintro e w10 ⟨rfl, hb10⟩; have HB10 := Lib.hid hb10; clear hb10)
    | (go_at_call 16; refine (works_any w10).mono ?_; rintro e w11 ⟨rfl, hb11⟩; have HB11 := Lib.hid hb11; clear hb11))
  go_ret
  exact ⟨rfl, bt (bt (bt (bt (bt (bt (bt HB1.out (Nat.le_refl _) HB2.out) (Nat.le_refl _) HB3.out) (Nat.le_refl _) HB4.out) (Nat.le_refl _) HB48.out) (Nat.le_refl _) HB9.out) (Nat.le_refl _) HB10.out) (Nat.le_refl _) HB11.out⟩
end Go.Proofs.Ytcppmjgglcobcaa

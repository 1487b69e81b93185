/- Ascii: comments. -/
import Derived.Test.YtkkolefhfmlhfabDoorAscM
namespace Go.Proofs.YtkkolefhfmlhfabDoor
open Go.RowKit

/-! ### the end, whatever fuel -/
theorem notes_fuel : ∀ (n m : Nat) (r : Bs), r.length ≤ n → r.length ≤ m → notesA n r = notesA m r
  | 0, m, r, h, _ => by
    have : r = [] := List.eq_nil_of_length_eq_zero (by omega)
    subst this
    cases m <;> simp [notesA]
  | n + 1, 0, r, _, h => by
    have : r = [] := List.eq_nil_of_length_eq_zero (by omega)
    subst this
    simp [notesA]
  | n + 1, m + 1, r, h1, h2 => by
    unfold notesA
    by_cases hr : r = []
    · rw [if_pos hr, if_pos hr]
    · rw [if_neg hr, if_neg hr]
      cases hl : lineA r with
      | none => rfl
      | some y =>
        obtain ⟨l, r'⟩ := y
        have := (lineA_len hl).1
        simp only
        rw [notes_fuel n m r' (by omega) (by omega)]
def notesP (r : Bs) : Except Nat (List Bs) := notesA r.length r
theorem notesP_nil : notesP [] = .ok [] := rfl
theorem notesP_none {r : Bs} (h : r ≠ []) (hl : lineA r = none) : notesP r = .error r.length := by
  unfold notesP
  cases r with
  | nil => exact absurd rfl h
  | cons c t =>
    simp only [List.length_cons, notesA]
    rw [if_neg (by simp), hl]
def glueN (ls : List Bs) (q : Except Nat (List Bs)) : Except Nat (List Bs) := match q with
  | .error k => .error k
  | .ok ms => .ok (ls ++ ms)
theorem glueN_nil (q : Except Nat (List Bs)) : glueN [] q = q := by cases q <;> rfl
theorem glueN_glue (a b : List Bs) (q : Except Nat (List Bs)) : glueN a (glueN b q) = glueN (a ++ b) q := by cases q <;> simp [glueN]
theorem notesP_some {r l r' : Bs} (hl : lineA r = some (l, r')) : notesP r = glueN [l] (notesP r') := by
  have hlt := (lineA_len hl).1
  unfold notesP
  cases r with
  | nil => cases hl
  | cons c t =>
    have e : notesA (c :: t).length (c :: t) = match notesA t.length r' with
        | .error k => .error k
        | .ok ls => .ok (l :: ls) := by
      simp only [List.length_cons, notesA]
      rw [if_neg (by simp), hl]
      rfl
    rw [e, notes_fuel t.length r'.length r' (by simpa using Nat.le_of_lt_succ (by simpa using hlt)) (Nat.le_refl _)]
    cases notesA r'.length r' <;> rfl
theorem tail_fuel : ∀ (n m : Nat) (r : Bs), r.length ≤ n → r.length ≤ m → tailA n r = tailA m r
  | 0, m, r, h, _ => by
    have : r = [] := List.eq_nil_of_length_eq_zero (by omega)
    subst this
    cases m <;> simp [tailA]
  | n + 1, 0, r, _, h => by
    have : r = [] := List.eq_nil_of_length_eq_zero (by omega)
    subst this
    simp [tailA]
  | n + 1, m + 1, r, h1, h2 => by
    unfold tailA
    by_cases hr : r = []
    · rw [if_pos hr, if_pos hr]
    · rw [if_neg hr, if_neg hr]
      cases hl : lineA r with
      | none => rfl
      | some y =>
        obtain ⟨l, r'⟩ := y
        have := (lineA_len hl).1
        simp only
        rw [tail_fuel n m r' (by omega) (by omega), notes_fuel n m r' (by omega) (by omega)]
abbrev SyA := UInt8 × Nat × Bs
def tailP (r : Bs) : Except Nat (List SyA × List Bs) := tailA r.length r
theorem tailP_nil : tailP [] = .ok ([], []) := rfl
theorem tailP_none {r : Bs} (h : r ≠ []) (hl : lineA r = none) : tailP r = .error r.length := by
  unfold tailP
  cases r with
  | nil => exact absurd rfl h
  | cons c t =>
    simp only [List.length_cons, tailA]
    rw [if_neg (by simp), hl]
def glueT (ss : List SyA) (q : Except Nat (List SyA × List Bs)) : Except Nat (List SyA × List Bs) := match q with
  | .error k => .error k
  | .ok (ts, ls) => .ok (ss ++ ts, ls)
theorem glueT_nil (q : Except Nat (List SyA × List Bs)) : glueT [] q = q := by cases q <;> rfl
theorem glueT_glue (a b : List SyA) (q : Except Nat (List SyA × List Bs)) : glueT a (glueT b q) = glueT (a ++ b) q := by cases q <;> simp [glueT]
theorem tailP_c {r r' : Bs} (hl : lineA r = some ([99], r')) : tailP r = match notesP r' with
    | .error k => .error k
    | .ok ls => .ok ([], ls) := by
  have hlt := (lineA_len hl).1
  unfold tailP notesP
  cases r with
  | nil => cases hl
  | cons c t =>
    simp only [List.length_cons, tailA]
    rw [if_neg (by simp), hl]
    simp only
    rw [if_pos trivial, notes_fuel t.length r'.length r' (by simpa using Nat.le_of_lt_succ (by simpa using hlt)) (Nat.le_refl _)]
    rfl
theorem tailP_bad {r r' l : Bs} (hl : lineA r = some (l, r')) (h : l ≠ [99]) (hs : symA l = none) : tailP r = .error r.length := by
  unfold tailP
  cases r with
  | nil => cases hl
  | cons c t =>
    simp only [List.length_cons, tailA]
    rw [if_neg (by simp), hl]
    simp only
    rw [if_neg h, hs]
theorem tailP_some {r r' l : Bs} {y : SyA} (hl : lineA r = some (l, r')) (h : l ≠ [99]) (hs : symA l = some y) : tailP r = glueT [y] (tailP r') := by
  have hlt := (lineA_len hl).1
  unfold tailP
  cases r with
  | nil => cases hl
  | cons c t =>
    simp only [List.length_cons, tailA]
    rw [if_neg (by simp), hl]
    simp only
    rw [if_neg h, hs]
    simp only
    rw [tail_fuel t.length r'.length r' (by simpa using Nat.le_of_lt_succ (by simpa using hlt)) (Nat.le_refl _)]
    cases tailA r'.length r' <;> rfl

theorem reads_oneA (w : World) (x : Value) (t : TypeId) : Reads (w.alloc (.cells #[x] t)) (w.heap.size + 1) 1 (some ⟨w.heap.size, 0, none⟩) 1 [x] := by
  refine ⟨rfl, fun _ => ⟨_, rfl, by simp, fun j u hu => ?_⟩⟩
  rw [add_none, Nat.zero_add, cell_of_row _ _ _ #[x] t (0, 0) (heap_alloc_new w _)]
  simpa using hu
def svA (b : Bs) : Value := .string (strB b)
theorem strA_info : (Tryd.prog.info? 9).map (fun i => (i.zero, i.size, i.bytes)) = some (some (.string ⟨#[]⟩), 1, 16) := by kernel_rfl
set_option maxHeartbeats 2000000 in
theorem clone_any (w : World) (l : Bs) (hl : l.length ≤ 262144) : Calls Tryd.prog 50 #[.string (strB l)] w fun e w' => e = .returned (.string (strB l)) ∧ Below w.heap.size w w' := by
  have HC := Lib.hid (Tryd.stringslite_Clone (strB l) w (by rw [strB_size]; omega))
  generalize strB l = t at HC ⊢
  go_enter Tryd.func50, Tryd.ntmps50
  go_wp2_with (go_at_call 70; refine HC.out.mono ?_; rintro e w1 ⟨rfl, hb⟩; have HB := Lib.hid hb; clear hb)
  go_ret
  exact ⟨rfl, HB.out⟩
/-- What comments answers. -/
def NoteAns (w : World) (s : Bs) (q : Except Nat (List Bs)) (e : Ending) (w' : World) : Prop := match q with
  | .error k => e = pan ((s.length - k : Nat) : Int) 42
  | .ok ls => ∃ v, e = .returned v ∧ w'.ownsRow w.heap.size 9 1 v ls.length (ls.map svA)
theorem own_sliceA {w : World} {B k n : Nat} {t : TypeId} {v : Value} {xs : List Value} (h : w.ownsRow B t k v n xs) : ∃ A c, v = .slice A n c := by
  rcases h.2 with ⟨rfl, rfl⟩ | ⟨g, cap, cur, rfl, _⟩
  · exact ⟨_, _, rfl⟩
  · exact ⟨_, _, rfl⟩
theorem gb_own {w w1 w2 : World} {b : Nat} {row : Option Nat} (h : w.grownBy w1 (some b)) (hg : w1.grownBy w2 row) (hr : ∀ k, row = some k → w.heap.size ≤ k) : w.grownBy w2 (some b) :=
  ⟨hg.os.trans h.os, hg.tape.trans h.tape, hg.output.trans h.output, Nat.le_trans h.size hg.size, fun k hk hne => (hg.block k (Nat.lt_of_lt_of_le hk h.size) (fun e => by have := hr k e.symm; omega)).trans (h.block k hk hne)⟩
set_option maxHeartbeats 8000000 in
set_option maxRecDepth 100000 in
theorem comments_any (w : World) (B b : Nat) (s : Bs) (p l : Nat) (h : Rd w b s p l) (hp : p ≤ s.length) (hs : s.length ≤ 262144) (lib : LibB B w) (hB : B ≤ b) :
    Calls Tryd.prog 53 #[.pointer (some ⟨b, 0, none⟩)] w fun e w' => w.grownBy w' (some b) ∧ NoteAns w s (notesP (s.drop p)) e w' := by
  have hlt : b < w.heap.size := Blk.lt h
  have HLB := Lib.hid lib
  have HR0 := Lib.hid h
  obtain ⟨q, hq⟩ : ∃ q, notesP (s.drop p) = q := ⟨_, rfl⟩
  rw [hq]
  have HQ0 : Hid (q = glueN [] (notesP (s.drop p))) := Lib.hid (by rw [glueN_nil, hq])
  have HG0 : Hid (w.grownBy w (some b)) := Lib.hid (World.grownBy.refl w _)
  have HO0 : Hid (w.ownsRow w.heap.size 9 1 (.slice none 0 0) 0 ([].map svA)) := Lib.hid (World.ownsRow_nil _ _ _ _)
  obtain ⟨iS, hiS, hSz0, hSz1, hSz2⟩ := info_of' strA_info
  have HIS := Lib.hid (And.intro hiS (And.intro hSz0 (And.intro hSz1 hSz2)))
  obtain ⟨g0, hg0⟩ : ∃ g, w.heap.size = g := ⟨_, rfl⟩
  rw [hg0] at HO0 hlt
  have HGE := Lib.hid hg0
  clear h lib hq hiS hSz0 hSz1 hSz2 hg0
  go_enter Tryd.func53, Tryd.ntmps53
  go_wp2
  go_loopg [3] (s.length - p) (fun j v wx => ∃ (pk lk : Nat) (ls : List Bs), j = s.length - pk ∧ pk ≤ s.length ∧ Rd wx b s pk lk ∧ wx.ownsRow g0 9 1 v ls.length (ls.map svA) ∧ ls.length ≤ pk ∧ q = glueN ls (notesP (s.drop pk)) ∧ w.grownBy wx (some b))
  case atStart => exact ⟨p, l, [], rfl, hp, HR0.out, HO0.out, Nat.zero_le _, HQ0.out, HG0.out⟩
  case round =>
    clear HR0 HQ0 HG0 HO0
    obtain ⟨pk, lk, ls, hgk, hpk, hrd, hown, hlp, hqq, hgb⟩ := hrel
    subst hgk
    obtain ⟨As, cs, hse⟩ := own_sliceA hown
    subst hse
    have HRD := Lib.hid hrd
    have HO := Lib.hid hown
    have HQ := Lib.hid hqq
    have HGB := Lib.hid hgb
    clear hqq hgb
    have d0 : wr.drew.cell? ⟨b, 0, none⟩ = some (.string (strB s)) := hrd.cells.1
    have d1 : wr.drew.cell? ⟨b, 1, none⟩ = some (.int .i64 (pk : Int)) := hrd.cells.2.1
    have e0 : wr.cell? ⟨b, 0, none⟩ = some (.string (strB s)) := hrd.cells.1
    have e1 : wr.cell? ⟨b, 1, none⟩ = some (.int .i64 (pk : Int)) := hrd.cells.2.1
    have hsz : (strB s).size = s.length := strB_size s
    have HOD : Hid (wr.drew.ownsRow g0 9 1 (.slice As ls.length cs) ls.length (ls.map svA)) := Lib.hid (hown)
    have HRDD : Hid (Rd wr.drew b s pk lk) := Lib.hid (Blk.drew hrd)
    have HGBD : Hid (w.grownBy wr.drew (some b)) := Lib.hid (gb_drew HGB.out)
    clear hrd hown
    by_cases hkn : pk < s.length
    · have hkI : (pk : Int) < (s.length : Int) := by omega
      have HLN := Lib.hid (line_any wr.drew B b s pk lk HRDD.out hpk hs (HLB.out.on (gb_to HGBD.out hB (by rw [HGE.out]; omega))) hB)
      cases hl : lineA (s.drop pk) with
      | none =>
        rw [hl] at HLN
        have HE : Hid (q = .error (s.drop pk).length ∧ s.length - (s.drop pk).length = pk) := Lib.hid ⟨by rw [HQ.out, notesP_none (by intro e; have := congrArg List.length e; simp at this; omega) hl]; rfl, lineA_end hpk⟩
        clear hl HQ
        go_upto_region 2 with (fail)
        go_region
        go_wp2_with (go_at_call 52; refine HLN.out.mono ?_; rintro e w1 ⟨hg, he⟩; have he2 : e = pan pk 42 := he; subst he2; have HG := Lib.hid (gb_trans HGBD.out hg); clear hg he)
        refine ⟨rfl, HG.out, ?_⟩
        rw [HE.out.1]
        show pan pk 42 = pan _ 42
        rw [HE.out.2]
      | some y =>
        obtain ⟨ln, r⟩ := y
        obtain ⟨hd, hr, hp2, hln⟩ := lineA_drop hl
        rw [hl] at HLN
        have HQ5 : Hid (q = glueN (ls ++ [ln]) (notesP (s.drop (s.length - r.length)))) := Lib.hid (by rw [HQ.out, notesP_some hl, glueN_glue, hd])
        have hadv : pk < s.length - r.length := by
          have h9 := (lineA_len hl).2
          rw [List.length_drop] at h9
          omega
        have HCL := Lib.hid (fun (wx : World) => clone_any wx ln (by omega))
        clear hl HQ hd
        have hls : ls.length ≤ 262144 := by omega
        obtain ⟨nl, hnl⟩ : ∃ nl, ls.length = nl := ⟨_, rfl⟩
        rw [hnl] at HOD hls
        have HNL := Lib.hid hnl
        rw [hnl]
        clear hnl
        go_upto_region 2 with (fail)
        go_region
        go_wp2_with (first
          | (go_at_call 52; refine HLN.out.mono ?_; rintro e w1 ⟨hg, he⟩; obtain ⟨rfl, hrd⟩ := he; have HG := Lib.hid (gb_trans HGBD.out hg); have HRD1 := Lib.hid hrd; have HO1 : Hid (w1.ownsRow g0 9 1 (.slice As nl cs) nl (ls.map svA)) := Lib.hid (own_of_block HOD.out fun g9 hg9 => hg.block g9 (HOD.out.lt g9 hg9).2 (fun e => by injection e with e; have := (HOD.out.lt g9 hg9).1; omega)); clear hg hrd)
          | (go_at_call 50; refine (HCL.out w1).mono ?_; rintro e w2 ⟨rfl, hb⟩; have HG2 := Lib.hid (gb_below HG.out hb); have HRD2 := Lib.hid (HRD1.out.below hb); have HO2 := Lib.hid (own_below HO1.out hb); have HGS : Hid (g0 ≤ w2.heap.size) := Lib.hid (by have := HG2.out.size; have := HGE.out; omega); clear hb)
          | (at_builtin; refine wpList_append_any _ rfl (.tmp 14) (.tmp 18) _ rfl g0 9 iS _ 1 16 Tryd.underlying33 HIS.out.1 HIS.out.2.1 HIS.out.2.2.1 HIS.out.2.2.2 rfl (by omega) (.slice As nl cs) nl (ls.map svA) rfl (HO2.out.alloc _) (w2.heap.size + 1) (some ⟨w2.heap.size, 0, none⟩) 1 1 [.string (strB ln)] rfl (reads_oneA _ _ _) (by simp [Value.oneCell']) (by simp only [maxLen]; omega) (by omega) (by have := HGS.out; simp; omega) ?_; intro v7 w7 hown7 hg7 hat7; have HO7 := Lib.hid hown7; have HG7 := Lib.hid hg7; clear hown7 hg7 hat7))
        have HR7 : Hid (Rd w7 b s (s.length - r.length) pk) := Lib.hid (Blk.grown (Blk.alloc HRD2.out _) HG7.out (fun e => by have := (HO2.out.lt b e.symm).1; omega))
        have HGB7 : Hid (w.grownBy w7 (some b)) := Lib.hid (gb_own (gb_below HG2.out ((Below.refl _ _).alloc (Nat.le_refl _) _)) HG7.out (fun k hk => by have := (HO2.out.lt k hk).1; have := HGE.out; omega))
        have HO8 : Hid (w7.ownsRow g0 9 1 v7 (ls ++ [ln]).length ((ls ++ [ln]).map svA)) := Lib.hid (by
          have h9 := HO7.out
          rw [List.map_append, List.length_append, HNL.out]
          exact h9)
        have hlen8 : (ls ++ [ln]).length ≤ s.length - r.length := by have h9 := hlp; rw [HNL.out] at h9; rw [List.length_append, HNL.out, List.length_singleton]; omega
        go_roundg (s.length - (s.length - r.length))
        case measure => omega
        case rel => first
          | exact ⟨s.length - r.length, pk, ls ++ [ln], rfl, by omega, HR7.out, HO8.out, hlen8, HQ5.out, HGB7.out⟩
          | ((repeat apply Exists.intro); exact ⟨⟨s.length - r.length, pk, ls ++ [ln], rfl, by omega, HR7.out, HO8.out, hlen8, HQ5.out, HGB7.out⟩, rfl⟩)
    · have hkI : ¬ ((pk : Int) < (s.length : Int)) := by omega
      have hke : pk = s.length := by omega
      have HE : Hid (q = .ok ls) := Lib.hid (by rw [HQ.out, hke, List.drop_eq_nil_of_le (Nat.le_refl _), notesP_nil]; simp [glueN])
      clear hke HQ
      go_upto_region 2 with (fail)
      go_region
      go_wp2
      go_ret
      refine ⟨HGBD.out, ?_⟩
      rw [HE.out]
      exact ⟨_, rfl, by rw [HGE.out]; exact HOD.out⟩
end Go.Proofs.YtkkolefhfmlhfabDoor

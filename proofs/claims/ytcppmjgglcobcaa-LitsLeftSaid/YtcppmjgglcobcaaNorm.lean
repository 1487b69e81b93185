/- lits.normal: of a clause of at most MaxItems formula's literals it answers the normal form, in memory of its own, and true; of one that is always true nothing and false. -/
import Derived.Test.YtcppmjgglcobcaaNf
import Derived.Laws.CopyOwn
import Derived.Laws.MakeOwn
namespace Go.Proofs.Ytcppmjgglcobcaa
open Go.RowKit Go.Shelf Go.Lib Go.Sort

theorem grownBy_grow (w : World) (os : Array Obj) : w.grownBy (grow w os) none :=
  ⟨rfl, rfl, rfl, by simp, fun k hk _ => heap_grow_old w os hk⟩

/-- The sort on a row of the call's own. -/
theorem sort_own (w : World) (B g n : Nat) (zs : List Int) (hn : zs.length = n) (hl : n ≤ 16384) (h : w.ownsRow B 3 1 (.slice (some ⟨g, 0, none⟩) n n) n (ints zs)) :
    Calls Try.prog 60 #[.slice (some ⟨g, 0, none⟩) n n, .func (.func 61) #[] #[]] w fun e w' =>
      e = .returned (.tuple #[]) ∧ ∃ ys, ys.length = n ∧ PermIn 0 zs.toArray.size zs.toArray ys.toArray ∧ SortedIn (ltOf cmpV) 0 zs.toArray.size ys.toArray ∧
        w'.ownsRow B 3 1 (.slice (some ⟨g, 0, none⟩) n n) n (ints ys) ∧ Below B w w' := by
  subst hn
  obtain ⟨g', cap', he, hB, hlt, h1, h2, h3, hH⟩ := holds_of_ownsRow (enc := Value.int .i64) h (by simp)
  cases he
  have hcon := sort_any g zs.length zs.toArray w hH hlt (by simpa using hl)
  rw [List.size_toArray] at hcon
  refine hcon.mono ?_
  rintro e w' ⟨rfl, d', n, os, hp, hs, rfl⟩
  have hsz : d'.toList.length = zs.length := by have := hp.1; simpa using this
  have ho := ownsRow_putRow (enc := Value.int .i64) (q := n) (ys := d'.toList) h hsz (Nat.le_refl _)
  rw [List.take_of_length_le (by omega), Array.toArray_toList] at ho
  refine ⟨rfl, d'.toList, hsz, by simpa using hp, by simpa using hs, ho.kept (grownBy_grow _ os) (.inr (by simp [Value.ownBlock])), ?_⟩
  exact (below_putRow (Below.refl B w) hB).grown (grownBy_grow _ os) (by simp [Sort.ahead]; omega) (by simp)

/-- slices.Compact on a row of the call's own. -/
theorem compact_own (w : World) (B g n : Nat) (zs : List Int) (hn : zs.length = n) (hl : n ≤ 16384) (h : w.ownsRow B 3 1 (.slice (some ⟨g, 0, none⟩) n n) n (ints zs)) :
    Calls Try.prog 62 #[.slice (some ⟨g, 0, none⟩) n n] w fun e w' =>
      e = .returned (.slice (some ⟨g, 0, none⟩) (compact zs).length n) ∧ w'.ownsRow B 3 1 (.slice (some ⟨g, 0, none⟩) (compact zs).length n) (compact zs).length (ints (compact zs)) ∧ Below B w w' := by
  obtain ⟨g', cap', he, hB, hlt, h1, h2, h3, hH⟩ := holds_of_ownsRow (enc := Value.int .i64) h (by simp)
  cases he
  have hcon := AnyG.slices_Compact_int Try.compactClause g 0 n zs w hH (by omega) (by omega)
  change Calls Try.prog 62 _ _ _ at hcon
  rw [hn] at hcon
  refine hcon.mono ?_
  rintro e w' ⟨rfl, q, rfl⟩
  have hc := compact_length_le zs
  have ho := ownsRow_putRow (enc := Value.int .i64) (q := q) (k := (compact zs).length) (ys := compact zs ++ List.replicate (n - (compact zs).length) 0) h (by simp; omega) (by omega)
  rw [List.take_append_of_le_length (Nat.le_refl _), List.take_of_length_le (Nat.le_refl _)] at ho
  exact ⟨rfl, ho, below_putRow (Below.refl B w) hB⟩

def NormalPost (w : World) (zs : List Int) (e : Ending) (w' : World) : Prop :=
  Below w.heap.size w w' ∧
  ((taut zs = true ∧ e = .returned (.tuple #[.slice none 0 0, .bool false])) ∨
   (taut zs = false ∧ ∃ ns g cap, e = .returned (.tuple #[.slice (some ⟨g, 0, none⟩) ns.length cap, .bool true]) ∧ NF zs ns ∧ w'.ownsRow w.heap.size 3 1 (.slice (some ⟨g, 0, none⟩) ns.length cap) ns.length (ints ns)))

theorem int_size : (Try.prog.info? 3).map (·.size) = some 1 := by kernel_rfl

theorem run_makeInts (n : Nat) (hn : n ≤ 1000000) (w : World) : ∃ cur : List Value, cur.length = n ∧ (Instr.makeSlice 28 (.int .i64 n) (.int .i64 n)).run Try.prog w = .ok (.slice (some ⟨w.heap.size, 0, none⟩) n n) (w.alloc (.cells cur.toArray 3)) := by
  obtain ⟨i0, hi0, hz0, hz1, hz2⟩ := info_parts int_info
  have h := run_make (P := Try.prog) w 28 3 i0 _ Try.underlying28 hi0 hz0 .i64 .i64 n n (by omega) (Int.le_refl _) (by rw [hz2]; omega) (by omega)
  refine ⟨(madeCells (Value.int .i64 0).cells n).toList, by simp [size_madeCells], ?_⟩
  rw [h, hz1]
  simp

theorem own_of_copy {w2 : World} {g n : Nat} {cur cs : List Value} {zs : List Int} (hg : w2.heap[g]? = some (.cells (splice cur 0 cs).toArray 3 (0, 0))) (hs : splice cur 0 cs = cs) (hc : cs = ints zs) (hn : zs.length = n) (hl : n ≤ 16384) :
    w2.ownsRow g 3 1 (.slice (some ⟨g, 0, none⟩) n n) n (ints zs) := by
  subst hc hn
  rw [hs] at hg
  exact ⟨by simp, .inr ⟨g, zs.length, _, rfl, Nat.le_refl _, hg, Nat.le_refl _, by simp only [maxLen]; omega, by simp, by simp [List.take_of_length_le]⟩⟩

theorem own_cell {w : World} {B g n cap : Nat} {us : List Int} (h : w.ownsRow B 3 1 (.slice (some ⟨g, 0, none⟩) n cap) n (ints us)) (k : Nat) (hk : k < us.length) : w.cell? ⟨g, k, none⟩ = some (.int .i64 (us.getD k 0)) := by
  have := h.cells (g := g) rfl k (.int .i64 (us.getD k 0)) (by simp [List.getD, hk])
  rwa [add_none, Nat.zero_add] at this

set_option maxHeartbeats 1000000 in
theorem normal_any (w : World) (v : Value) (zs : List Int) (h : Ints w v zs) (hl : zs.length ≤ 16384) (hF : zs.all isF = true) :
    Calls Try.prog 44 #[v] w (NormalPost w zs) := by
  obtain ⟨A, c, rfl, hr⟩ := h.reads
  have HF := Lib.hid hF
  clear h hF
  obtain ⟨cur, hcur, hmk⟩ := run_makeInts zs.length (by omega) w
  obtain ⟨cs, hcs⟩ : ∃ cs, cs = ints zs := ⟨_, rfl⟩
  have hcl : cs.length = zs.length := by rw [hcs]; simp
  have h1c : ∀ v ∈ cs, v.oneCell' = true := by rw [hcs]; exact ints_one zs
  have hsp : splice cur 0 cs = cs := by
    unfold splice
    rw [List.drop_of_length_le (by omega)]; simp
  rw [← hcs] at hr
  have HCS := Lib.hid hcs
  have HSP := Lib.hid hsp
  have HCUR := Lib.hid hcur
  have HCL := Lib.hid hcl
  have H1 := Lib.hid h1c
  have k1 : cs.length = Nat.min zs.length zs.length := by rw [hcl]; simp
  have k2 : 0 < cs.length → some (⟨w.heap.size, 0, none⟩ : Addr) = some ⟨w.heap.size, 0, none⟩ ∧ ∃ ad, A = some ad ∧ ∀ j v, cs[j]? = some v → (w.alloc (.cells cur.toArray 3)).cell? (ad.add j) = some v := by
    intro hp
    obtain ⟨ad, e, hb, hc⟩ := (hr.alloc (Nat.le_refl _) (.cells cur.toArray 3)).2 (by omega)
    exact ⟨rfl, ad, e, hc⟩
  have k3 : 0 + cs.length ≤ cur.length := by omega
  have K1 := Lib.hid k1
  have K2 := Lib.hid k2
  have K3 := Lib.hid k3
  clear hcs hsp hcur hcl h1c k1 k2 k3
  generalize hn : zs.length = n at *
  have HN := Lib.hid hn
  clear hn
  go_enter Try.func44, Try.ntmps44
  go_wp2_with (first
    | (refine wpList_copy_splice (o := ⟨some 11, _, _, _, _, _⟩) rfl (.tmp 9) (.tmp 10) 28 28 rfl 3 Try.underlying28 int_size (some ⟨w.heap.size, 0, none⟩) A n n n c rfl rfl w.heap.size 0 cur 3 (heap_alloc_new w _) cs K1.out K2.out K3.out H1.out w.heap.size w ((Below.refl _ _).alloc (Nat.le_refl _) _) (Nat.le_refl _) ?_; intro w2 HG2 hB2)
    | (go_at_call 60; refine (sort_own w2 w.heap.size w.heap.size n zs HN.out hl (own_of_copy HG2.out HSP.out HCS.out HN.out hl)).mono ?_; rintro e w3 ⟨rfl, ys, hyl, hpi, hsi, hown3, hb3⟩; have HY := Lib.hid hyl; have HP := Lib.hid hpi; have HS := Lib.hid hsi; have HO3 := Lib.hid hown3; clear hyl hpi hsi hown3)
    | (go_at_call 62; refine (compact_own w3 w.heap.size w.heap.size n ys HY.out hl HO3.out).mono ?_; rintro e w4 ⟨rfl, hown4, hb4⟩; have HO4 := Lib.hid hown4; clear hown4))
  have hb24 : Below w.heap.size w w4 := (hB2.trans hb3).trans hb4
  have hoc := sorted_compact HF.out (by have := HP.out; simpa using this) HS.out
  have hul : (compact ys).length ≤ n := by have := compact_length_le ys; rw [HY.out] at this; exact this
  generalize compact ys = us at *
  obtain ⟨hord, hmem⟩ := hoc
  have HORD := Lib.hid hord
  have HMEM := Lib.hid hmem
  have hub : ∀ k, k < us.length → -262144 ≤ us.getD k 0 ∧ us.getD k 0 ≤ 262144 := fun k hk => by
    have := isF_yes (List.all_eq_true.1 HF.out _ ((hmem _).1 (getD_mem hk)))
    exact ⟨this.2.1, this.2.2⟩
  have HUB := Lib.hid hub
  clear hord hmem hub hB2 hb3 hb4
  go_loopw [5] (fun i wr => ∃ m : Nat, i = .int .i64 ((m + 1 : Nat) : Int) ∧ (m = 0 ∨ m + 1 ≤ us.length) ∧ (∀ j, j < m → us.getD j 0 ≠ - us.getD (j + 1) 0) ∧ Below w.heap.size w wr ∧ wr.ownsRow w.heap.size 3 1 (.slice (some ⟨w.heap.size, 0, none⟩) us.length n) us.length (ints us)) (fun i _ => us.length - (intOf i).toNat)
  case atStart => exact ⟨0, rfl, .inl rfl, by omega, hb24, HO4.out⟩
  case round =>
    obtain ⟨m, rfl, hm, hj, hbw, how⟩ := hrel
    have HJ := Lib.hid hj
    have HOW := Lib.hid how
    clear hj how hb24
    by_cases hlt : m + 1 < us.length
    · have hc1 := own_cell HOW.out m (by omega)
      have hc2 := own_cell HOW.out (m + 1) hlt
      have hy := HUB.out (m + 1) hlt
      generalize hxe : us.getD m 0 = x at hc1
      generalize hye : us.getD (m + 1) 0 = y at hc2 hy
      have HX := Lib.hid hxe
      have HY' := Lib.hid hye
      clear hxe hye
      obtain ⟨hy1, hy2⟩ := hy
      by_cases hxy : x = -y
      · have hb1 : (x == -y) = true := by simpa using hxy
        have HXY := Lib.hid hxy
        clear hxy
        go_wp2
        go_quiet (fail)
        go_wp2
        go_ret2
        exact ⟨below_drewN hbw _, .inl ⟨Ord.taut HMEM.out hlt (by rw [HX.out, HY'.out]; exact HXY.out), rfl⟩⟩
      · have hb1 : (x == -y) = false := by simpa using hxy
        have HXY := Lib.hid hxy
        clear hxy
        go_wp2
        go_quiet (fail)
        go_wp2
        go_roundw
        case rel =>
          refine ⟨m + 1, by go_num, .inr (by omega), fun j hj => ?_, below_drewN hbw _, HOW.out⟩
          by_cases e : j = m
          · subst e; rw [HX.out, HY'.out]; exact HXY.out
          · exact HJ.out j (by omega)
        case measure => simp [intOf]; omega
    · go_wp2
      go_ret2
      have hnf : NF zs us := HORD.out.normal HMEM.out (fun j hj => HJ.out j (by omega))
      exact ⟨hbw, .inr ⟨hnf.no_taut (fun x hx => (isF_yes (List.all_eq_true.1 HF.out x hx)).1), us, _, _, rfl, hnf, HOW.out⟩⟩
end Go.Proofs.Ytcppmjgglcobcaa

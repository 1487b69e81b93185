/- An append onto an empty list that was just written down: new memory, nothing that was there turns; lists of lists, copied. -/
import Derived.Test.YtdodhbfplglbkaaCopyR
import Derived.Test.YtdodhbfplglbkaaCopy
import Derived.Test.YtdodhbfplglbkaaSame3
namespace Go.Proofs.Ytdodhbfplglbkaa
open Go.RowKit

theorem int_infoL : (Try.prog.info? 3).map (fun i => (i.zero, i.size, i.bytes)) = some (some (.int .i64 0), 1, 8) := by kernel_rfl

abbrev ints (zs : List Int) : List Value := zs.map (Value.int .i64)

abbrev Ints (w : World) (v : Value) (zs : List Int) : Prop := RowE 1 encI w v zs
theorem Ints.reads {w : World} {v : Value} {zs : List Int} (h : Ints w v zs) : ∃ A c, v = .slice A zs.length c ∧ Reads w w.heap.size 1 A zs.length (ints zs) := by
  obtain ⟨A, c, e, hr⟩ := RowE.reads lenI (by omega) h
  rw [flat_ints] at hr
  exact ⟨A, c, e, hr⟩
/-- v is a list zs of the call's own (in block g), with -77 behind its end. -/
def Lent (w : World) (B : Nat) (v : Value) (zs : List Int) : Prop :=
  ∃ g cap cur, v = .slice (some ⟨g, 0, none⟩) zs.length cap ∧ B ≤ g ∧ w.heap[g]? = some (.cells cur 3 (0, 0)) ∧ zs.length + 1 ≤ cap ∧ cap ≤ maxLen ∧ cur.size = cap ∧ cur.toList.take (zs.length + 1) = ints zs ++ [.int .i64 (-77)]

theorem Lent.reads {w : World} {B : Nat} {v : Value} {zs : List Int} (h : Lent w B v zs) : Ints w v zs := by
  obtain ⟨g, cap, cur, rfl, hb, hg, h1, h2, h3, h4⟩ := h
  refine ⟨_, cap, rfl, by omega, h2, fun i z hz => ⟨g, 0, rfl, (Array.getElem?_eq_some_iff.1 hg).1, fun j u hu => ?_⟩⟩
  have hi : i < zs.length := (List.getElem?_eq_some_iff.1 hz).1
  have hj : j = 0 := by have := (List.getElem?_eq_some_iff.1 hu).1; simp at this; exact this
  subst hj
  have e : cur.toList[i]? = (ints zs ++ [.int .i64 (-77)])[i]? := by rw [← h4, List.getElem?_take, if_pos (by omega)]
  rw [Nat.zero_add, Nat.mul_one, Nat.add_zero, cell_of_row w g _ cur _ _ hg, ← Array.getElem?_toList, e, List.getElem?_append_left (by simpa using hi), ← hu]
  simp [hz]
theorem Lent.below {w w' : World} {B : Nat} {v : Value} {zs : List Int} (h : Lent w B v zs) (hb : Below w.heap.size w w') : Lent w' B v zs := by
  obtain ⟨g, cap, cur, rfl, hB, hg, h⟩ := h
  exact ⟨g, cap, cur, rfl, hB, (hb.block g (Array.getElem?_eq_some_iff.1 hg).1).trans hg, h⟩

/-- What is known of a row of the call's own that has at least one member. -/
theorem own_form {w : World} {B n : Nat} {v : Value} {xs : List Value} (h : w.ownsRow B 3 1 v n xs) (hn : 0 < n) :
    ∃ g cap cur, v = .slice (some ⟨g, 0, none⟩) n cap ∧ B ≤ g ∧ w.heap[g]? = some (.cells cur 3 (0, 0)) ∧ n ≤ cap ∧ cap ≤ maxLen ∧ cur.size = cap ∧ cur.toList.take n = xs := by
  rcases h.2 with ⟨_, h0⟩ | ⟨g, cap, cur, hv, hb, hg, h1, h2, h3, h4⟩
  · omega
  · exact ⟨g, cap, cur, hv, hb, hg, h1, h2, by simpa using h3, by simpa using h4⟩

set_option maxHeartbeats 1000000 in
set_option maxRecDepth 100000 in
theorem LendInts_any (w : World) (v : Value) (zs : List Int) (h : Ints w v zs) (hb : zs.length * 8 ≤ 140737488351232) :
    Calls Try.prog 10 #[v] w fun e w' => ∃ v', e = .returned v' ∧ Lent w' w.heap.size v' zs ∧ Below w.heap.size w w' := by
  obtain ⟨A, c, rfl, hr⟩ := h.reads
  obtain ⟨i0, hi0, hz0, hz1, hz2⟩ := info_parts int_infoL
  go_enter Try.func10, Try.ntmps10
  go_wp2_with (first
    | (go_at_call 43; refine (CopyInts_any _ _ zs h (by omega)).mono ?_; rintro e w1 ⟨v1, rfl, hown1, hb1⟩; rw [flat_ints] at hown1)
    | (at_builtin; refine wpList_append_any _ rfl (.tmp 4) (.tmp 5) _ rfl w.heap.size 3 i0 _ 1 8 Try.underlying22 hi0 hz0 hz1 hz2 rfl (by omega) v1 zs.length (ints zs) rfl (hown1.alloc _) (w1.heap.size + 1) (some ⟨w1.heap.size, 0, none⟩) 1 1 [.int .i64 (-77)] rfl (reads_one _ _ _) (by simp [Value.oneCell']) (by simp only [maxLen]; omega) (by omega) (by have := hb1.size; simp; omega) ?_; intro v2 w2 hown2 hg2 hat2; obtain ⟨g, cap, cur, rfl, hB, hg, hn, hm, hsz, htk⟩ := own_form hown2 (by omega)))
  go_ret
  refine ⟨_, rfl, ⟨g, cap, cur, rfl, hB, hg, hn, hm, hsz, htk⟩, (hb1.alloc hb1.size _).grown hg2 (by have := hb1.size; simp; omega) (fun k hk => (hown1.lt k hk).1)⟩

/-- What lies behind the end of a list that was lent. -/
theorem Lent.mark {w : World} {B : Nat} {v : Value} {zs : List Int} (h : Lent w B v zs) : ∃ g cap, v = .slice (some ⟨g, 0, none⟩) zs.length cap ∧ zs.length + 1 ≤ cap ∧ cap ≤ maxLen ∧ B ≤ g ∧ g < w.heap.size ∧ w.cell? ⟨g, zs.length, none⟩ = some (.int .i64 (-77)) := by
  obtain ⟨g, cap, cur, rfl, hb, hg, h1, h2, h3, h4⟩ := h
  refine ⟨g, cap, rfl, h1, h2, hb, (Array.getElem?_eq_some_iff.1 hg).1, ?_⟩
  have e : cur.toList[zs.length]? = (ints zs ++ [.int .i64 (-77)])[zs.length]? := by rw [← h4, List.getElem?_take, if_pos (by omega)]
  rw [cell_of_row w g _ cur _ _ hg, ← Array.getElem?_toList, e, List.getElem?_append_right (by simp)]
  simp

set_option maxHeartbeats 1000000 in
set_option maxRecDepth 100000 in
theorem KeptInts_any (w : World) (B : Nat) (v u : Value) (zs : List Int) (h : Lent w B v zs) (h' : Ints w u zs) : Calls Try.prog 20 #[v, u] w fun e w' => e = .returned (.bool true) ∧ Below w.heap.size w w' := by
  have hcon := SameInts_any w v u zs zs h.reads h'
  rw [decide_eq_true rfl] at hcon
  have hlen := h'.len
  obtain ⟨A, c, rfl, hr⟩ := h'.reads
  obtain ⟨g, cap, rfl, h1, h2, hB, hg, hcell⟩ := h.mark
  clear h h' hr
  unfold maxLen at hlen h2
  go_enter Try.func20, Try.ntmps20
  go_wp2_with (go_at_call 56; refine hcon.mono ?_; rintro e w1 ⟨rfl, hb1⟩; have hcell1 := (hb1.cell (p := ⟨g, zs.length, none⟩) hg).trans hcell)
  go_ret
  exact ⟨rfl, hb1⟩

/-- All cells of block g hold some int; nothing else is said of them. -/
def IntBlk (w : World) (g cap : Nat) : Prop := ∃ cur : Array Value, w.heap[g]? = some (.cells cur 3 (0, 0)) ∧ cur.size = cap

theorem IntBlk.at_ {w : World} {g cap : Nat} (h : IntBlk w g cap) (i : Nat) (hi : i < cap) : ∃ u, w.cell? ⟨g, i, none⟩ = some u := by
  obtain ⟨cur, hg, hs⟩ := h
  exact ⟨_, by rw [cell_of_row w g _ cur _ _ hg, Array.getElem?_eq_getElem (by omega)]⟩
theorem IntBlk.free {w : World} {g cap : Nat} (h : IntBlk w g cap) (i : Nat) : w.frozen? ⟨g, i, none⟩ = false := by
  obtain ⟨cur, hg, hs⟩ := h
  exact Blk.frozen hg i
theorem IntBlk.set_ {w : World} {g cap : Nat} (h : IntBlk w g cap) (i : Nat) (u : Value) : IntBlk (w.setCell ⟨g, i, none⟩ u) g cap := by
  obtain ⟨cur, hg, hs⟩ := h
  exact ⟨_, Blk.set_ hg i u, by simpa using hs⟩
theorem own_blk {w : World} {B n : Nat} {v : Value} {xs : List Value} (h : w.ownsRow B 3 1 v n xs) :
    (v = .slice none 0 0 ∧ n = 0) ∨ ∃ g cap, v = .slice (some ⟨g, 0, none⟩) n cap ∧ B ≤ g ∧ n ≤ cap ∧ cap ≤ maxLen ∧ IntBlk w g cap := by
  rcases h.2 with h | ⟨g, cap, cur, hv, hb, hg, h1, h2, h3, h4⟩
  · exact .inl h
  · exact .inr ⟨g, cap, hv, hb, h1, h2, cur, hg, by simpa using h3⟩

theorem only_setL {w wr : World} {g : Nat} (h : w.grownBy wr (some g)) (i : Nat) (u : Value) : w.grownBy (wr.setCell ⟨g, i, none⟩ u) (some g) :=
  ⟨h.os, h.tape, h.output, by simpa [World.setCell] using h.size, fun k hk hne => (Below.heap_setCell _ _ _ _ (by intro e; exact hne (by rw [e]))).trans (h.block k hk hne)⟩
set_option maxHeartbeats 1000000 in
set_option maxRecDepth 100000 in
theorem SpoilInts_any (w : World) (B n : Nat) (v : Value) (xs : List Value) (m : Int) (h : w.ownsRow B 3 1 v n xs) : Calls Try.prog 54 #[v, .int .i64 m] w fun e w' => e = .returned (.tuple #[]) ∧ w.grownBy w' v.ownBlock := by
  rcases own_blk h with ⟨rfl, rfl⟩ | ⟨g, cap, rfl, hB, h1, h2, hI⟩
  · clear h
    go_enter Try.func54, Try.ntmps54
    go_wp2
    go_loop [4] (fun i => i = .int .i64 0) (fun i => (intOf i).toNat)
    case atStart => exact rfl
    case round =>
      subst hrel
      go_wp2
      go_end0
      exact ⟨rfl, World.grownBy.refl w _⟩
  · clear h
    unfold maxLen at h2
    have HI := Lib.hid hI
    clear hI
    go_enter Try.func54, Try.ntmps54
    go_wp2
    go_loopw [4] (fun i wr => ∃ k : Nat, k ≤ n ∧ i = .int .i64 k ∧ IntBlk wr g cap ∧ w.grownBy wr (some g)) (fun i _ => n - (intOf i).toNat)
    case atStart => exact ⟨0, Nat.zero_le _, rfl, HI.out, World.grownBy.refl w _⟩
    case round =>
      obtain ⟨k, hk, rfl, hib, hbw⟩ := hrel
      have HIB := Lib.hid hib
      clear hib
      by_cases hlt : k < n
      · obtain ⟨u, hu⟩ := HIB.out.at_ k (by omega)
        have hf := HIB.out.free k
        go_wp2
        go_roundw
        case rel => exact ⟨k + 1, by omega, by go_num, HIB.out.set_ _ _, only_setL hbw _ _⟩
        case measure => simp [intOf]; omega
      · have : k = n := by omega
        subst this
        by_cases hcap : k < cap
        · obtain ⟨u, hu⟩ := HIB.out.at_ k (by omega)
          have hf := HIB.out.free k
          go_wp2
          go_end0
          exact ⟨rfl, only_setL hbw _ _⟩
        · go_wp2
          go_end0
          exact ⟨rfl, hbw⟩
end Go.Proofs.Ytdodhbfplglbkaa

namespace Go.Proofs.Ytdodhbfplglbkaa
open Go.RowKit

theorem empty_own {w : World} {g B size : Nat} {t : TypeId} (h : Blk w g t #[]) (hB : B ≤ g) : w.ownsRow B t size (.slice (some ⟨g, 0, none⟩) 0 0) 0 [] := ⟨by simp, .inr ⟨g, 0, #[], rfl, hB, h, Nat.le_refl _, by simp [maxLen], by simp, by simp⟩⟩
theorem run_append_fresh {P : Program} (w : World) (base : Nat) (t ty e : TypeId) (i : TypeInfo) (z : Value) (size bytes : Nat) (ht : P.underlying t = some (.slice e)) (hi : P.info? e = some i) (hz : i.zero = some z)
    (hsize : i.size = size) (hby : i.bytes = bytes) (hzs : z.cells.size = size) (hsz : 0 < size)
    (g : Nat) (hb : Blk w g e #[]) (hBg : base ≤ g)
    (B : Nat) (A : Option Addr) (m c : Nat) (news : List Value) (hr : Reads w B size A m news) (h1 : ∀ u ∈ news, u.oneCell' = true)
    (h63 : m ≤ maxLen) (hbytes : m * bytes ≤ 140737488355328) (hbase : base ≤ w.heap.size) :
    ∃ v' w', (Builtin.append_ #[t, t] ty #[.slice (some ⟨g, 0, none⟩) 0 0, .slice A m c]).run P w = .ok v' w' ∧ w'.ownsRow base e size v' m news ∧ Below w.heap.size w w' := by
  have hown : w.ownsRow base e size (.slice (some ⟨g, 0, none⟩) 0 0) 0 [] := empty_own hb hBg
  rcases A with _ | ad
  · have hm : m = 0 := by
      rcases Nat.eq_zero_or_pos m with h0 | h0
      · exact h0
      · obtain ⟨ad, h, _⟩ := hr.2 h0
        cases h
    subst hm
    have hn : news = [] := List.eq_nil_of_length_eq_zero (by simpa using hr.1)
    subst hn
    exact ⟨_, w, run_append_of_nil w base t ty e i size ht hi _ 0 [] hown c, hown, Below.refl _ _⟩
  · have hcells : ∀ j u, news[j]? = some u → w.cell? (ad.add j) = some u := by
      intro j u hu
      rcases Nat.eq_zero_or_pos m with h0 | h0
      · subst h0
        have hn : news = [] := List.eq_nil_of_length_eq_zero (by simpa using hr.1)
        subst hn
        simp at hu
      · obtain ⟨ad', h, _, hc⟩ := hr.2 h0
        injection h with h
        subst h
        exact hc j u hu
    obtain ⟨v', w', hrun, h2, h3, _⟩ := run_append_any (P := P) w base t ty e i z size bytes ht hi hz hsize hby hzs hsz _ 0 [] hown B (some ad) m c news hr h1 (by omega) (by rw [Nat.zero_add]; exact hbytes) hbase
    rw [Nat.zero_add, List.nil_append] at h2
    refine ⟨v', w', hrun, h2, ⟨h3.os, h3.tape, h3.output, h3.size, fun k hk => ?_⟩⟩
    by_cases hkg : k = g
    · subst hkg
      rcases Nat.eq_zero_or_pos m with h0 | h0
      · subst h0
        have hn : news = [] := List.eq_nil_of_length_eq_zero (by simpa using hr.1)
        subst hn
        have hr2 := run_append_room (P := P) w t ty e i ht hi k 0 0 #[] hb ad 0 c [] (by simp) (by simp) (by simp) (Nat.le_refl _) (by simp)
        rw [hr2] at hrun
        injection hrun with e1 e2
        rw [← e2]
        have := setRow_heap w k #[] ([] : List Value).toArray e _ hb
        simp only [Nat.zero_mul, List.take_zero, List.nil_append, List.length_nil, Nat.add_zero, List.drop_zero] at *
        rw [this]
        exact hb.symm
      · have hr2 := run_append_grow (P := P) w t ty e i z ht hi hz ⟨k, 0, none⟩ 0 0 [] (by simp) (by simp) ad m c news (by rw [hsize]; exact hr.1) hcells (by omega) (by simp only [maxLen] at h63; omega) (growslice_fits (by omega) (by rw [Nat.zero_add, hby]; exact hbytes))
        rw [hr2] at hrun
        injection hrun with e1 e2
        rw [← e2]
        exact Below.heap_alloc w.drew _ k hk
    · exact h3.block k hk (fun e => hkg (by simpa [Value.ownBlock] using e))
theorem wp_append_fresh {P : Program} {w : World} {o : Oper} {a : Act} {K : Act → World → Prop} {Q : Exit → Act → World → Prop} (s x : Operand) (t : TypeId)
    (ho : o.op = .call { callee := .builtin .append, args := #[s, x], argTypes := #[t, t] })
    (base : Nat) (e : TypeId) (i : TypeInfo) (z : Value) (size bytes : Nat) (ht : P.underlying t = some (.slice e)) (hi : P.info? e = some i) (hz : i.zero = some z)
    (hsize : i.size = size) (hby : i.bytes = bytes) (hzs : z.cells.size = size) (hsz : 0 < size)
    (g : Nat) (hs : a.eval s = .slice (some ⟨g, 0, none⟩) 0 0) (hb : Blk w g e #[]) (hBg : base ≤ g)
    (B : Nat) (A : Option Addr) (m c : Nat) (news : List Value) (hx : a.eval x = .slice A m c) (hr : Reads w B size A m news) (h1 : ∀ u ∈ news, u.oneCell' = true)
    (h63 : m ≤ maxLen) (hbytes : m * bytes ≤ 140737488355328) (hbase : base ≤ w.heap.size)
    (h : ∀ v' w', w'.ownsRow base e size v' m news → Below w.heap.size w w' → K (a.put o.dst v') w') : o.wp P a w K Q := by
  obtain ⟨v', w', hrun, h2, h3⟩ := run_append_fresh (P := P) w base t o.type e i z size bytes ht hi hz hsize hby hzs hsz g hb hBg B A m c news hr h1 h63 hbytes hbase
  unfold Oper.wp execOp
  simp only [ho, resolve, invoke, builtin, Sem.run_bind, Sem.run_pure, Result.andThen_ok, List.map_toArray, List.map_cons, List.map_nil, hs, hx, hrun]
  exact h v' w' h2 h3

/-- A list of lists that a call has made: us are the values of its lists. -/
structure JRow (w : World) (B : Nat) (v : Value) (us : List Value) (zss : List (List Int)) : Prop where
  ul : us.length = zss.length
  own : w.ownsRow B 22 1 v us.length us
  each : ∀ (i : Nat) (u : Value) (zs : List Int), us[i]? = some u → zss[i]? = some zs → w.ownsRow B 3 1 u zs.length (zs.flatMap encI)
theorem JRow.below {w w' : World} {B : Nat} {v : Value} {us : List Value} {zss : List (List Int)} (h : JRow w B v us zss) (hb : Below w.heap.size w w') : JRow w' B v us zss :=
  ⟨h.ul, own_below h.own hb, fun i u zs hu hz => own_below (h.each i u zs hu hz) hb⟩
theorem JRow.base {w : World} {B B' : Nat} {v : Value} {us : List Value} {zss : List (List Int)} (h : JRow w B v us zss) (hB : B' ≤ B) : JRow w B' v us zss :=
  ⟨h.ul, own_base h.own hB, fun i u zs hu hz => own_base (h.each i u zs hu hz) hB⟩
theorem JRow.lists {w : World} {B : Nat} {v : Value} {us : List Value} {zss : List (List Int)} (h : JRow w B v us zss) : Lists w v zss :=
  ⟨us, own_rowe lenV (by rw [flat_vals]; exact h.own), h.ul, fun i u zs hu hz => own_rowe lenI (h.each i u zs hu hz)⟩
theorem JRow.snoc {w w1 w2 : World} {B : Nat} {v v2 u : Value} {us : List Value} {zss : List (List Int)} {zs : List Int} (h : JRow w B v us (zss.take us.length)) (hz : zss[us.length]? = some zs) (hb : Below w.heap.size w w1) (hBw : B ≤ w.heap.size)
    (hu : w1.ownsRow w.heap.size 3 1 u zs.length (zs.flatMap encI)) (hg : w1.grownBy w2 v.ownBlock) (ho : w2.ownsRow B 22 1 v2 (us.length + 1) (us ++ [u])) : JRow w2 B v2 (us ++ [u]) (zss.take (us.length + 1)) := by
  have hlt : us.length < zss.length := (List.getElem?_eq_some_iff.1 hz).1
  have hown1 := own_below h.own hb
  have keep : ∀ {u' : Value} {n : Nat} {xs : List Value}, w1.ownsRow B 3 1 u' n xs → w2.ownsRow B 3 1 u' n xs := fun hh =>
    own_of_block hh fun k hk => hg.block k (hh.lt k hk).2 (fun e => by
      rcases hown1.2 with ⟨hv, _⟩ | ⟨g, cap, cur, hv, _, hgg, _⟩
      · rw [hv] at e; cases e
      · rw [hv] at e
        have e2 : k = g := by simpa [Value.ownBlock] using e
        exact own_blk_ne hh hgg (by decide) (by rw [hk, e2]))
  refine ⟨by simp; omega, by simpa using ho, fun i u' zs' hu' hz' => ?_⟩
  by_cases hi : i < us.length
  · rw [List.getElem?_append_left hi] at hu'
    rw [List.getElem?_take, if_pos (by omega)] at hz'
    exact keep (own_below (h.each i u' zs' hu' (by rw [List.getElem?_take, if_pos hi]; exact hz')) hb)
  · have : i < (us ++ [u]).length := (List.getElem?_eq_some_iff.1 hu').1
    have hi2 : i = us.length := by simp at this; omega
    subst hi2
    rw [List.getElem?_take, if_pos (by omega), hz] at hz'
    simp at hu' hz'
    subst hu' hz'
    exact keep (own_base hu hBw)
set_option maxHeartbeats 2000000 in
set_option maxRecDepth 100000 in
theorem CopyLists_any (w : World) (v : Value) (zss : List (List Int)) (h : Lists w v zss) (hr1 : zss.length * 24 ≤ 140737488355328) (hr2 : ∀ zs ∈ zss, zs.length * 8 ≤ 140737488355328) :
    Calls Try.prog 83 #[v] w fun e w' => ∃ v' us, e = .returned v' ∧ JRow w' w.heap.size v' us zss ∧ Below w.heap.size w w' := by
  obtain ⟨vs, hj1, hj2, hj3⟩ := h
  obtain ⟨A, c, rfl, hA1, hA2, hrun⟩ := hj1
  have HRUN := Lib.hid hrun
  have HJ3 := Lib.hid hj3
  have HR2 := Lib.hid hr2
  obtain ⟨iV, hiV, hzV0, hzV1, hzV2⟩ := info_of2 infoV2
  rw [← hj2] at hr1
  have hn : vs.length ≤ 10000000000000 := by omega
  generalize hvn : vs.length = n at *
  have HVN := Lib.hid hvn
  have HZN := Lib.hid hj2
  have HST0 : Hid (JRow w w.heap.size (.slice none 0 0) [] (zss.take 0)) := Lib.hid ⟨by simp, World.ownsRow_nil _ _ _ _, fun i u zs hu _ => by simp at hu⟩
  clear hj3 hr2 hrun hvn hj2 hA1 hA2
  go_enter Try.func83, Try.ntmps83
  go_wp2
  go_loopg [3, 4] n (fun k v3 j wx => ∃ (q : Nat) (us : List Value), q ≤ n ∧ k = n - q ∧ j = .int .i64 q ∧ us.length = q ∧ JRow wx w.heap.size v3 us (zss.take us.length) ∧ Below w.heap.size w wx)
  case atStart => exact ⟨0, [], Nat.zero_le _, rfl, rfl, rfl, HST0.out, Below.refl _ _⟩
  case round =>
    obtain ⟨q, us, hq, hgk, rfl, hul, hst, hbl⟩ := hrel
    subst hgk
    have HST := Lib.hid hst
    have HBL := Lib.hid hbl
    have HUL := Lib.hid hul
    obtain ⟨A3, c3, hv3⟩ := own_slice_k hst.own
    subst hv3
    by_cases hlt : q < n
    · obtain ⟨u, hu⟩ : ∃ u, vs[q]? = some u := ⟨_, List.getElem?_eq_getElem (by rw [HVN.out]; exact hlt)⟩
      obtain ⟨zs, hz⟩ : ∃ zs, zss[q]? = some zs := ⟨_, List.getElem?_eq_getElem (by have := HZN.out; omega)⟩
      obtain ⟨b, off, rfl, hb, hcell⟩ := HRUN.out q u hu
      have o0 := (hbl.cell (p := ⟨b, off + (q * 1 + 0), none⟩) hb).trans (hcell 0 _ rfl)
      simp only [Nat.mul_one, Nat.add_zero] at o0
      have hcp := CopyInts_any wr u zs ((HJ3.out q u zs hu hz).below hbl) (HR2.out zs (List.mem_of_getElem? hz))
      have HCP := Lib.hid hcp
      have HZ := Lib.hid hz
      clear hst hbl hcell hcp hu hz hul
      go_wp2_with (first
        | (go_at_call 43; go_loud (refine HCP.out.mono ?_; rintro e w1 ⟨v1, rfl, hown1, hb1⟩; have HO1 := Lib.hid hown1; have HB1 := Lib.hid hb1; obtain ⟨A4, c4, hv4⟩ := own_slice_k hown1; subst hv4; clear hown1 hb1))
        | (at_builtin; go_loud (refine wpList_append_any _ rfl (.tmp 11) (.tmp 17) _ rfl w.heap.size 22 iV _ 1 24 Try.underlying24 hiV hzV0 hzV1 hzV2 rfl (by omega) (.slice A3 us.length c3) us.length us rfl ((own_below HST.out.own HB1.out).alloc _) (w1.heap.size + 1) (some ⟨w1.heap.size, 0, none⟩) 1 1 [.slice A4 zs.length c4] rfl (reads_one _ _ _) (by simp [Value.oneCell']) (by have := HUL.out; simp only [maxLen]; omega) (by have := HUL.out; omega) (by have := HB1.out.size; have := HBL.out.size; simp; omega) ?_; intro v2 w2 hown2 hg2 hat2; have HO2 := Lib.hid hown2; have HG2 := Lib.hid hg2; clear hown2 hg2 hat2)))
      go_roundg (n - (q + 1))
      case measure => omega
      case rel =>
        have hbw := HBL.out.size
        have hb1 := HB1.out
        have hal : Below wr.heap.size wr (w1.alloc (.cells #[.slice A4 zs.length c4] 22)) := hb1.alloc hb1.size _
        refine ⟨q + 1, us ++ [.slice A4 zs.length c4], by omega, rfl, by go_num, by simp [HUL.out], ?_, (bt HBL.out (Nat.le_refl _) hal).grown HG2.out (by have := hb1.size; simp; omega) (fun k hk => (HST.out.own.lt k hk).1)⟩
        have := HST.out.snoc (zs := zs) (by rw [HUL.out]; exact HZ.out) hal hbw (HO1.out.alloc _) HG2.out HO2.out
        simpa using this
    · have hqe : q = n := by omega
      subst hqe
      clear hst hbl hul
      go_wp2
      go_ret
      refine ⟨_, us, rfl, ?_, HBL.out⟩
      have hfin := HST.out
      rw [show zss.take us.length = zss from List.take_of_length_le (by have := HZN.out; have := HUL.out; omega)] at hfin
      exact hfin
end Go.Proofs.Ytdodhbfplglbkaa

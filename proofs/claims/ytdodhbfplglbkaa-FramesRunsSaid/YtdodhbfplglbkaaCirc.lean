/- Circuits in memory, as plain data; what the table of defined variables says. -/
import Derived.Test.YtdodhbfplglbkaaRows
import Derived.WalkKit
import Derived.Below
import Derived.Laws.OwnMore
import Derived.Deep.AppendLies
import Derived.Deep.Draws
import Derived.Laws.Rows
import Derived.Maps.AppendAt
import Derived.RegionTactic
import Derived.OwnWalk
import Derived.Laws.MakeOwn
import Derived.LoopTactic
import Derived.Lib.Hide
import Derived.BigQuiet
import Derived.Deep.QuietTactic
import Derived.IntWalk
namespace Go.Proofs.Ytdodhbfplglbkaa
open Go.RowKit

theorem block_of_add (a : Addr) (n : Nat) : (a.add n).block = a.block := by unfold Addr.add; split <;> rfl
def Reads (w : World) (B size : Nat) (A : Option Addr) (n : Nat) (xs : List Value) : Prop :=
  xs.length = n * size ∧ (0 < n → ∃ ad, A = some ad ∧ ad.block < B ∧ ∀ j u, xs[j]? = some u → w.cell? (ad.add j) = some u)

section
variable {w w' : World} {B B' size n : Nat} {A : Option Addr} {xs : List Value}
theorem Reads.at_ {k : Nat} (h : Reads w B 1 A n xs) (hk : k < n) : ∃ ad u, A = some ad ∧ ad.block < B ∧ xs[k]? = some u ∧ w.cell? (ad.add k) = some u := by
  obtain ⟨ad, e, hb, hc⟩ := h.2 (by omega)
  have hl : k < xs.length := by have := h.1; omega
  exact ⟨ad, xs[k], e, hb, List.getElem?_eq_getElem hl, hc k _ (List.getElem?_eq_getElem hl)⟩
theorem Reads.keep (h : Reads w B size A n xs) (hk : ∀ p : Addr, p.block < B → w'.cell? p = w.cell? p) : Reads w' B size A n xs :=
  ⟨h.1, fun hn => by
    obtain ⟨ad, e, hb, hc⟩ := h.2 hn
    exact ⟨ad, e, hb, fun j u hu => (hk _ (by rw [block_of_add]; exact hb)).trans (hc j u hu)⟩⟩
theorem Reads.below (h : Reads w B size A n xs) (hb : Below B w w') : Reads w' B size A n xs := h.keep fun _ hp => hb.cell hp
theorem Reads.drew (h : Reads w B size A n xs) : Reads w.drew B size A n xs := h
theorem Reads.drewN (h : Reads w B size A n xs) (k : Nat) : Reads (w.drewN k) B size A n xs := h
theorem Reads.alloc (h : Reads w B size A n xs) (hB : B ≤ w.heap.size) (o : Obj) : Reads (w.alloc o) B size A n xs := h.keep fun p hp => World.cell?_alloc_lt w o p (by omega)
theorem Reads.setCell (h : Reads w B size A n xs) {p : Addr} (hB : B ≤ p.block) (u : Value) : Reads (w.setCell p u) B size A n xs :=
  h.keep fun q hq => World.cell?_setCell_other w p q u (fun e => by subst e; omega)
theorem Reads.grown (h : Reads w B size A n xs) {row : Option Nat} (hg : w.grownBy w' row) (hB : B ≤ w.heap.size) (hr : ∀ g, row = some g → B ≤ g) : Reads w' B size A n xs :=
  h.keep fun p hp => World.cell?_of_block (hg.block p.block (by omega) (fun e => by have := hr _ e.symm; omega))
end

def Blk (w : World) (g : Nat) (t : TypeId) (cs : Array Value) : Prop := w.heap[g]? = some (.cells cs t (0, 0))

section
variable {w w' : World} {g : Nat} {t : TypeId} {cs : Array Value}
theorem Blk.lt (h : Blk w g t cs) : g < w.heap.size := by
  rcases Nat.lt_or_ge g w.heap.size with hlt | hge
  · exact hlt
  · unfold Blk at h; rw [Array.getElem?_eq_none hge] at h; cases h
theorem Blk.cell (h : Blk w g t cs) (i : Nat) : w.cell? ⟨g, i, none⟩ = cs[i]? := cell_of_row w g i cs t (0, 0) h
theorem Blk.frozen (h : Blk w g t cs) (i : Nat) : w.frozen? ⟨g, i, none⟩ = false := by
  unfold Blk at h
  simp [World.frozen?, h]
theorem Blk.new (w : World) (t : TypeId) (cs : Array Value) : Blk (w.alloc (.cells cs t)) w.heap.size t cs := heap_alloc_new w _
theorem Blk.drew (h : Blk w g t cs) : Blk w.drew g t cs := h
theorem Blk.drewN (h : Blk w g t cs) (n : Nat) : Blk (w.drewN n) g t cs := h
theorem Blk.alloc (h : Blk w g t cs) (o : Obj) : Blk (w.alloc o) g t cs := (Below.heap_alloc w o g h.lt).trans h
theorem Blk.set_ (h : Blk w g t cs) (i : Nat) (u : Value) : Blk (w.setCell ⟨g, i, none⟩ u) g t (cs.setIfInBounds i u) := by
  unfold Blk at h ⊢
  simp [World.setCell, Array.getElem?_modify, h]
theorem Blk.far (h : Blk w g t cs) {p : Addr} (hp : g ≠ p.block) (u : Value) : Blk (w.setCell p u) g t cs := (Below.heap_setCell w p u g hp).trans h
theorem Blk.below {B : Nat} (h : Blk w g t cs) (hb : Below B w w') (hg : g < B) : Blk w' g t cs := (hb.block g hg).trans h
theorem Blk.grown {row : Option Nat} (h : Blk w g t cs) (hb : w.grownBy w' row) (hg : some g ≠ row) : Blk w' g t cs := (hb.block g h.lt hg).trans h
theorem Blk.ne_ {g' : Nat} {t' : TypeId} {cs' : Array Value} (h : Blk w g t cs) (h' : Blk w g' t' cs') (hne : t ≠ t') : g ≠ g' := by
  rintro rfl
  unfold Blk at h h'
  rw [h] at h'
  injection h' with h'
  injection h' with _ ht
  exact hne ht
theorem own_blk_ne {base : Nat} {e : TypeId} {size n : Nat} {v : Value} {xs : List Value} (h : w.ownsRow base e size v n xs) (hg : Blk w g t cs) (hne : e ≠ t) : v.ownBlock ≠ some g := by
  rcases h.2 with ⟨rfl, _⟩ | ⟨g', cap, cur, rfl, _, hh, _⟩
  · simp [Value.ownBlock]
  · intro he
    have : g' = g := by simpa [Value.ownBlock] using he
    subst this
    exact Blk.ne_ (t := e) hh hg hne rfl
end

section
variable {P : Program} (w : World)

theorem run_append_of_nil (base : Nat) (t ty e : TypeId) (i : TypeInfo) (size : Nat) (ht : P.underlying t = some (.slice e)) (hi : P.info? e = some i)
    (v : Value) (n : Nat) (xs : List Value) (hown : w.ownsRow base e size v n xs) (c : Nat) : (Builtin.append_ #[t, t] ty #[v, .slice none 0 c]).run P w = .ok v w := by
  rcases hown.2 with ⟨rfl, rfl⟩ | ⟨g, cap, cur, rfl, _, _, hnc, _⟩
  · simp [Builtin.append_, run_underlying ht, sizeOf, typeInfo, hi, Builtin.lenOf, Builtin.firstCells]
  · simp [Builtin.append_, run_underlying ht, sizeOf, typeInfo, hi, Builtin.lenOf, Builtin.firstCells, hnc, storeCells]

theorem run_append_any (base : Nat) (t ty e : TypeId) (i : TypeInfo) (z : Value) (size bytes : Nat) (ht : P.underlying t = some (.slice e)) (hi : P.info? e = some i) (hz : i.zero = some z)
    (hsize : i.size = size) (hby : i.bytes = bytes) (hzs : z.cells.size = size) (hsz : 0 < size)
    (v : Value) (n : Nat) (xs : List Value) (hown : w.ownsRow base e size v n xs)
    (B : Nat) (A : Option Addr) (m c : Nat) (news : List Value) (hr : Reads w B size A m news) (h1 : ∀ u ∈ news, u.oneCell' = true)
    (h63 : n + m ≤ maxLen) (hbytes : (n + m) * bytes ≤ 140737488355328) (hbase : base ≤ w.heap.size) :
    ∃ v' w', (Builtin.append_ #[t, t] ty #[v, .slice A m c]).run P w = .ok v' w' ∧ w'.ownsRow base e size v' (n + m) (xs ++ news) ∧ w.grownBy w' v.ownBlock ∧
      (v'.ownBlock = v.ownBlock ∨ v'.ownBlock = some w.heap.size) := by
  rcases A with _ | ad
  · have hm : m = 0 := by
      rcases Nat.eq_zero_or_pos m with h0 | h0
      · exact h0
      · obtain ⟨ad, h, _⟩ := hr.2 h0
        cases h
    subst hm
    have hn : news = [] := List.eq_nil_of_length_eq_zero (by simpa using hr.1)
    subst hn
    exact ⟨v, w, run_append_of_nil w base t ty e i size ht hi v n xs hown c, by simpa using hown, World.grownBy.refl w _, .inl rfl⟩
  · have hcells : ∀ j u, news[j]? = some u → w.cell? (ad.add j) = some u := by
      intro j u hu
      rcases Nat.eq_zero_or_pos m with h0 | h0
      · subst h0
        have hn : news = [] := List.eq_nil_of_length_eq_zero (by simpa using hr.1)
        subst hn
        simp at hu
      · obtain ⟨ad', h, _, hc⟩ := hr.2 h0
        injection h with h
        subst h
        exact hc j u hu
    obtain ⟨v', w', hrun, h2, h3, _, h5⟩ := run_append_own_at (P := P) w base t ty e i z size bytes ht hi hz hsize hby hzs hsz v n xs hown ad m c news hr.1 hcells h1 h63 hbytes hbase
    exact ⟨v', w', hrun, h2, h3, h5⟩

theorem wp_append_any {o : Oper} {a : Act} {K : Act → World → Prop} {Q : Exit → Act → World → Prop} (s x : Operand) (t : TypeId)
    (ho : o.op = .call { callee := .builtin .append, args := #[s, x], argTypes := #[t, t] })
    (base : Nat) (e : TypeId) (i : TypeInfo) (z : Value) (size bytes : Nat) (ht : P.underlying t = some (.slice e)) (hi : P.info? e = some i) (hz : i.zero = some z)
    (hsize : i.size = size) (hby : i.bytes = bytes) (hzs : z.cells.size = size) (hsz : 0 < size)
    (v : Value) (n : Nat) (xs : List Value) (hs : a.eval s = v) (hown : w.ownsRow base e size v n xs)
    (B : Nat) (A : Option Addr) (m c : Nat) (news : List Value) (hx : a.eval x = .slice A m c) (hr : Reads w B size A m news) (h1 : ∀ u ∈ news, u.oneCell' = true)
    (h63 : n + m ≤ maxLen) (hbytes : (n + m) * bytes ≤ 140737488355328) (hbase : base ≤ w.heap.size)
    (h : ∀ v' w', w'.ownsRow base e size v' (n + m) (xs ++ news) → w.grownBy w' v.ownBlock → (v'.ownBlock = v.ownBlock ∨ v'.ownBlock = some w.heap.size) → K (a.put o.dst v') w') : o.wp P a w K Q := by
  obtain ⟨v', w', hrun, h2, h3, h4⟩ := run_append_any (P := P) w base t o.type e i z size bytes ht hi hz hsize hby hzs hsz v n xs hown B A m c news hr h1 h63 hbytes hbase
  unfold Oper.wp execOp
  simp only [ho, resolve, invoke, builtin, Sem.run_bind, Sem.run_pure, Result.andThen_ok, List.map_toArray, List.map_cons, List.map_nil, hs, hx, hrun]
  exact h v' w' h2 h3 h4

theorem wpList_append_any {ops : Array Oper} {rest : List Oper} {o : Oper} {a : Act} {Q : Exit → Act → World → Prop} (hgd : o.guard = none) (s x : Operand) (t : TypeId)
    (ho : o.op = .call { callee := .builtin .append, args := #[s, x], argTypes := #[t, t] })
    (base : Nat) (e : TypeId) (i : TypeInfo) (z : Value) (size bytes : Nat) (ht : P.underlying t = some (.slice e)) (hi : P.info? e = some i) (hz : i.zero = some z)
    (hsize : i.size = size) (hby : i.bytes = bytes) (hzs : z.cells.size = size) (hsz : 0 < size)
    (v : Value) (n : Nat) (xs : List Value) (hs : a.eval s = v) (hown : w.ownsRow base e size v n xs)
    (B : Nat) (A : Option Addr) (m c : Nat) (news : List Value) (hx : a.eval x = .slice A m c) (hr : Reads w B size A m news) (h1 : ∀ u ∈ news, u.oneCell' = true)
    (h63 : n + m ≤ maxLen) (hbytes : (n + m) * bytes ≤ 140737488355328) (hbase : base ≤ w.heap.size)
    (h : ∀ v' w', w'.ownsRow base e size v' (n + m) (xs ++ news) → w.grownBy w' v.ownBlock → (v'.ownBlock = v.ownBlock ∨ v'.ownBlock = some w.heap.size) → wpList P ops Q rest (a.put o.dst v') w') : wpList P ops Q (o :: rest) a w :=
  wpList_plain hgd fun _ hK => wp_append_any w s x t ho base e i z size bytes ht hi hz hsize hby hzs hsz v n xs hs hown B A m c news hx hr h1 h63 hbytes hbase fun v' w' h2 h3 h4 => hK _ _ (h v' w' h2 h3 h4)

theorem step_append_any {ops : Array Oper} {o : Oper} {a : Act} {K : Act → World → Prop} {Q : Exit → Act → World → Prop} {E : Prop} (hgd : o.guard = none) (s x : Operand) (t : TypeId)
    (ho : o.op = .call { callee := .builtin .append, args := #[s, x], argTypes := #[t, t] })
    (base : Nat) (e : TypeId) (i : TypeInfo) (z : Value) (size bytes : Nat) (ht : P.underlying t = some (.slice e)) (hi : P.info? e = some i) (hz : i.zero = some z)
    (hsize : i.size = size) (hby : i.bytes = bytes) (hzs : z.cells.size = size) (hsz : 0 < size)
    (v : Value) (n : Nat) (xs : List Value) (hs : a.eval s = v) (hown : w.ownsRow base e size v n xs)
    (B : Nat) (A : Option Addr) (m c : Nat) (news : List Value) (hx : a.eval x = .slice A m c) (hr : Reads w B size A m news) (h1 : ∀ u ∈ news, u.oneCell' = true)
    (h63 : n + m ≤ maxLen) (hbytes : (n + m) * bytes ≤ 140737488355328) (hbase : base ≤ w.heap.size)
    (h : ∀ v' w', w'.ownsRow base e size v' (n + m) (xs ++ news) → w.grownBy w' v.ownBlock → (v'.ownBlock = v.ownBlock ∨ v'.ownBlock = some w.heap.size) → K (a.put o.dst v') w') :
    if Region.wanted o (yielded ops a.tmps) = true then Oper.wp P o a w K Q else E := by
  have hw : Region.wanted o (yielded ops a.tmps) = true := by simp [Region.wanted, hgd]
  rw [if_pos hw]
  exact wp_append_any w s x t ho base e i z size bytes ht hi hz hsize hby hzs hsz v n xs hs hown B A m c news hx hr h1 h63 hbytes hbase h
end

end Go.Proofs.Ytdodhbfplglbkaa

namespace Go.Proofs.Ytdodhbfplglbkaa
open Go.RowKit

theorem add_none (b off k : Nat) : (⟨b, off, none⟩ : Addr).add k = ⟨b, off + k, none⟩ := by
  unfold Addr.add; split <;> simp_all
theorem bt {B : Nat} {a b c : World} (h1 : Below B a b) (hB : B ≤ a.heap.size) (h2 : Below b.heap.size b c) : Below B a c := h1.trans (h2.mono (Nat.le_trans hB h1.size))
theorem below_drewN {B : Nat} {a w : World} (h : Below B a w) (n : Nat) : Below B a (w.drewN n) := ⟨h.os, h.tape, h.output, h.size, h.block⟩
theorem ret_int {k : IntKind} {a b : Int} (h : a = b) : Ending.returned (.int k a) = .returned (.int k b) := by rw [h]
theorem ret_bool {a b : Bool} (h : a = b) : Ending.returned (.bool a) = .returned (.bool b) := by rw [h]

section
variable {E : Type}
/-- The address A begins a run of the things zs, of k cells each. -/
def Run (k : Nat) (enc : E → List Value) (w : World) (A : Option Addr) (zs : List E) : Prop :=
  ∀ i z, zs[i]? = some z → ∃ b off, A = some ⟨b, off, none⟩ ∧ b < w.heap.size ∧ ∀ j u, (enc z)[j]? = some u → w.cell? ⟨b, off + (i * k + j), none⟩ = some u
/-- The slice value v reads, in w, as the things zs. -/
def RowE (k : Nat) (enc : E → List Value) (w : World) (v : Value) (zs : List E) : Prop :=
  ∃ A c, v = .slice A zs.length c ∧ zs.length ≤ c ∧ c ≤ maxLen ∧ Run k enc w A zs

variable {k : Nat} {enc : E → List Value} {w w' : World} {v : Value} {A : Option Addr} {zs : List E}
theorem Run.below (h : Run k enc w A zs) (hb : Below w.heap.size w w') : Run k enc w' A zs := fun i z hz => by
  obtain ⟨b, off, e, h1, h2⟩ := h i z hz
  exact ⟨b, off, e, Nat.lt_of_lt_of_le h1 hb.size, fun j u hu => (hb.cell (p := ⟨b, off + (i * k + j), none⟩) h1).trans (h2 j u hu)⟩
theorem RowE.below (h : RowE k enc w v zs) (hb : Below w.heap.size w w') : RowE k enc w' v zs := by
  obtain ⟨A, c, e, h1, h2, h3⟩ := h
  exact ⟨A, c, e, h1, h2, h3.below hb⟩
theorem RowE.len (h : RowE k enc w v zs) : zs.length ≤ maxLen := by
  obtain ⟨A, c, e, h1, h2, h3⟩ := h
  exact Nat.le_trans h1 h2
theorem RowE.nil (w : World) (A : Option Addr) (c : Nat) (hc : c ≤ maxLen) : RowE k enc w (.slice A 0 c) ([] : List E) := ⟨A, c, rfl, Nat.zero_le _, hc, fun i z hz => by simp at hz⟩
theorem Run.some_ (h : Run k enc w A zs) (hn : 0 < zs.length) : ∃ b off, A = some ⟨b, off, none⟩ ∧ b < w.heap.size ∧ ∀ i z, zs[i]? = some z → ∀ j u, (enc z)[j]? = some u → w.cell? ⟨b, off + (i * k + j), none⟩ = some u := by
  obtain ⟨b, off, e, h1, _⟩ := h 0 zs[0] (List.getElem?_eq_getElem hn)
  refine ⟨b, off, e, h1, fun i z hz j u hu => ?_⟩
  obtain ⟨b', off', e', _, h2⟩ := h i z hz
  rw [e] at e'; cases e'
  exact h2 j u hu

theorem flat_get (hk : ∀ z, (enc z).length = k) : ∀ (zs : List E) (i : Nat) (z : E), zs[i]? = some z → ∀ j, j < k → (zs.flatMap enc)[i * k + j]? = (enc z)[j]? := by
  intro zs
  induction zs with
  | nil => intro i z hz; simp at hz
  | cons a r ih =>
    intro i z hz j hj
    rw [List.flatMap_cons]
    cases i with
    | zero =>
      simp at hz; subst hz
      rw [List.getElem?_append_left (by rw [hk]; omega)]; simp
    | succ i =>
      rw [List.getElem?_append_right (by rw [hk, Nat.succ_mul]; omega), hk, show (i + 1) * k + j - k = i * k + j by rw [Nat.succ_mul]; omega]
      exact ih i z (by simpa using hz) j hj
theorem flat_len (hk : ∀ z, (enc z).length = k) (zs : List E) : (zs.flatMap enc).length = zs.length * k := by
  induction zs with
  | nil => simp
  | cons a r ih => rw [List.flatMap_cons, List.length_append, hk, ih, List.length_cons, Nat.succ_mul]; omega

/-- What an append reads. -/
theorem RowE.reads (hk : ∀ z, (enc z).length = k) (h0 : 0 < k) (h : RowE k enc w v zs) : ∃ A c, v = .slice A zs.length c ∧ Reads w w.heap.size k A zs.length (zs.flatMap enc) := by
  obtain ⟨A, c, rfl, h1, h2, h3⟩ := h
  refine ⟨A, c, rfl, flat_len hk zs, fun hn => ?_⟩
  obtain ⟨b, off, rfl, hb, hcell⟩ := h3.some_ hn
  refine ⟨_, rfl, hb, fun j u hu => ?_⟩
  have hj : j < zs.length * k := by rw [← flat_len hk zs]; exact (List.getElem?_eq_some_iff.1 hu).1
  have hi : j / k < zs.length := Nat.div_lt_of_lt_mul (by rw [Nat.mul_comm]; exact hj)
  have hz := List.getElem?_eq_getElem hi
  have hm : j % k < k := Nat.mod_lt _ h0
  have e : j / k * k + j % k = j := by rw [Nat.mul_comm]; exact Nat.div_add_mod j k
  have hf := flat_get hk zs (j / k) _ hz (j % k) hm
  rw [e, hu] at hf
  have := hcell (j / k) _ hz (j % k) u hf.symm
  rw [e] at this
  rw [add_none]; exact this

/-- A list of the call's own reads. -/
theorem own_rowe (hk : ∀ z, (enc z).length = k) {B : Nat} {t : TypeId} (h : w.ownsRow B t k v zs.length (zs.flatMap enc)) : RowE k enc w v zs := by
  rcases h.2 with ⟨rfl, h0⟩ | ⟨g, cap, cur, rfl, hb, hg, h1, h2, h3, h4⟩
  · have : zs = [] := List.eq_nil_of_length_eq_zero h0
    subst this
    exact ⟨_, _, rfl, Nat.le_refl _, by simp [maxLen], fun i z hz => by simp at hz⟩
  · refine ⟨_, cap, rfl, h1, h2, fun i z hz => ⟨g, 0, rfl, (Array.getElem?_eq_some_iff.1 hg).1, fun j u hu => ?_⟩⟩
    have hj : j < k := by rw [← hk z]; exact (List.getElem?_eq_some_iff.1 hu).1
    have := h.cells (g := g) rfl (i * k + j) u (by rw [flat_get hk zs i z hz j hj]; exact hu)
    rwa [add_none] at this
theorem own_le {B B' n : Nat} {t : TypeId} {xs : List Value} (h : w.ownsRow B t k v n xs) (hb : B' ≤ B) : w.ownsRow B' t k v n xs := by
  refine ⟨h.1, ?_⟩
  rcases h.2 with h2 | ⟨g, cap, cur, hv, hB, h3⟩
  · exact .inl h2
  · exact .inr ⟨g, cap, cur, hv, by omega, h3⟩
theorem own_below {B n : Nat} {t : TypeId} {xs : List Value} (h : w.ownsRow B t k v n xs) (hb : Below w.heap.size w w') : w'.ownsRow B t k v n xs := by
  refine ⟨h.1, ?_⟩
  rcases h.2 with h2 | ⟨g, cap, cur, hv, hB, hg, h3⟩
  · exact .inl h2
  · exact .inr ⟨g, cap, cur, hv, hB, (hb.block g (Array.getElem?_eq_some_iff.1 hg).1).trans hg, h3⟩
theorem flat_one {f : E → List Value} (h1 : ∀ z, ∀ u ∈ f z, u.oneCell' = true) (zs : List E) : ∀ u ∈ zs.flatMap f, u.oneCell' = true := by
  intro u hu
  obtain ⟨z, _, hz⟩ := List.mem_flatMap.1 hu
  exact h1 z u hz
end

/-- The things themselves: numbers, triples of numbers, names of things, texts, lists. -/
abbrev Tri := Int × Int × Int
structure Sym where
  kind : Int
  at_ : Int
  name : ByteArray
deriving DecidableEq
abbrev encI (z : Int) : List Value := [.int .i64 z]
abbrev encT (z : Tri) : List Value := [.int .i64 z.1, .int .i64 z.2.1, .int .i64 z.2.2]
abbrev encS (z : Sym) : List Value := [.int .u8 z.kind, .int .i64 z.at_, .string z.name]
abbrev encB (z : ByteArray) : List Value := [.string z]
abbrev encV (z : Value) : List Value := [z]
theorem lenI (z : Int) : (encI z).length = 1 := rfl
theorem lenT (z : Tri) : (encT z).length = 3 := rfl
theorem lenS (z : Sym) : (encS z).length = 3 := rfl
theorem lenB (z : ByteArray) : (encB z).length = 1 := rfl
theorem lenV (z : Value) : (encV z).length = 1 := rfl
theorem oneI (z : Int) : ∀ u ∈ encI z, u.oneCell' = true := by simp [Value.oneCell']
theorem oneT (z : Tri) : ∀ u ∈ encT z, u.oneCell' = true := by simp [Value.oneCell']
theorem oneS (z : Sym) : ∀ u ∈ encS z, u.oneCell' = true := by simp [Value.oneCell']
theorem oneB (z : ByteArray) : ∀ u ∈ encB z, u.oneCell' = true := by simp [Value.oneCell']

theorem take_eq_succ' {E : Type} {xs ys : List E} {k : Nat} {x : E} (h1 : xs[k]? = some x) (h2 : ys[k]? = some x) (h : xs.take k = ys.take k) : xs.take (k + 1) = ys.take (k + 1) := by
  rw [List.take_add_one, List.take_add_one, h, h1, h2]
theorem take_all {E : Type} {xs ys : List E} {n : Nat} (h1 : xs.length = n) (h2 : ys.length = n) (h : xs.take n = ys.take n) : xs = ys := by
  rwa [List.take_of_length_le (by omega), List.take_of_length_le (by omega)] at h
end Go.Proofs.Ytdodhbfplglbkaa

namespace Go.Proofs.Ytdodhbfplglbkaa
open Go.RowKit

/-- A circuit as plain data. -/
structure Circ where
  max : Int
  inputs : List Int
  latches : List Tri
  outputs : List Int
  bads : List Int
  constraints : List Int
  justice : List (List Int)
  fairness : List Int
  ands : List Tri
  symbols : List Sym
  comments : List ByteArray
/-- The values of a circuit's lists. -/
structure CV where
  i : Value
  l : Value
  o : Value
  b : Value
  c : Value
  j : Value
  f : Value
  a : Value
  s : Value
  t : Value
abbrev CV.cells (V : CV) (m : Int) : Array Value := #[.int .i64 m, V.i, V.l, V.o, V.b, V.c, V.j, V.f, V.a, V.s, V.t]
abbrev CV.val (V : CV) (m : Int) : Value := .agg (V.cells m)

/-- A list of lists of numbers. -/
def Lists (w : World) (v : Value) (zss : List (List Int)) : Prop :=
  ∃ vs : List Value, RowE 1 encV w v vs ∧ vs.length = zss.length ∧ ∀ (i : Nat) (u : Value) (zs : List Int), vs[i]? = some u → zss[i]? = some zs → RowE 1 encI w u zs
theorem Lists.below {w w' : World} {v : Value} {zss : List (List Int)} (h : Lists w v zss) (hb : Below w.heap.size w w') : Lists w' v zss := by
  obtain ⟨vs, h1, h2, h3⟩ := h
  exact ⟨vs, h1.below hb, h2, fun i u zs hu hz => (h3 i u zs hu hz).below hb⟩

/-- A number of the kind int. -/
def I64 (z : Int) : Prop := -9223372036854775808 ≤ z ∧ z ≤ 9223372036854775807
theorem I64.half {l : Int} (h : I64 l) (h0 : 0 ≤ l) : wrap64 (l.tdiv 2) = l / 2 := by
  obtain ⟨h1, h2⟩ := h
  rw [Int.tdiv_eq_ediv_of_nonneg h0]
  simp only [wrap64]; omega
def I64T (z : Tri) : Prop := I64 z.1 ∧ I64 z.2.1 ∧ I64 z.2.2
structure Circ.Ok (C : Circ) : Prop where
  max : I64 C.max
  i : ∀ z ∈ C.inputs, I64 z
  l : ∀ z ∈ C.latches, I64T z
  o : ∀ z ∈ C.outputs, I64 z
  b : ∀ z ∈ C.bads, I64 z
  c : ∀ z ∈ C.constraints, I64 z
  j : ∀ zs ∈ C.justice, ∀ z ∈ zs, I64 z
  f : ∀ z ∈ C.fairness, I64 z
  a : ∀ z ∈ C.ands, I64T z
  s : ∀ z ∈ C.symbols, 0 ≤ z.kind ∧ z.kind ≤ 255 ∧ I64 z.at_
  sn : ∀ z ∈ C.symbols, z.name.size ≤ maxLen

/-- The lists of V read as the circuit's. -/
structure Circ.In (w : World) (V : CV) (C : Circ) : Prop where
  i : RowE 1 encI w V.i C.inputs
  l : RowE 3 encT w V.l C.latches
  o : RowE 1 encI w V.o C.outputs
  b : RowE 1 encI w V.b C.bads
  c : RowE 1 encI w V.c C.constraints
  j : Lists w V.j C.justice
  f : RowE 1 encI w V.f C.fairness
  a : RowE 3 encT w V.a C.ands
  s : RowE 3 encS w V.s C.symbols
  t : RowE 1 encB w V.t C.comments
theorem Circ.In.below {w w' : World} {V : CV} {C : Circ} (h : C.In w V) (hb : Below w.heap.size w w') : C.In w' V :=
  ⟨h.i.below hb, h.l.below hb, h.o.below hb, h.b.below hb, h.c.below hb, h.j.below hb, h.f.below hb, h.a.below hb, h.s.below hb, h.t.below hb⟩

/-- Block g of the scratch is the table tb. -/
def Tab (w : World) (g : Nat) (tb : List Bool) : Prop := Blk w g 4 (tb.map Value.bool).toArray
theorem Tab.cell {w : World} {g : Nat} {tb : List Bool} (h : Tab w g tb) {i : Nat} {x : Bool} (hx : tb[i]? = some x) : w.cell? ⟨g, i, none⟩ = some (.bool x) := by
  rw [Blk.cell h]; simp [hx]
theorem Tab.set_ {w : World} {g : Nat} {tb : List Bool} (h : Tab w g tb) (i : Nat) (x : Bool) : Tab (w.setCell ⟨g, i, none⟩ (.bool x)) g (tb.set i x) := by
  have := Blk.set_ h i (.bool x)
  simpa [Tab, List.map_set] using this
theorem below_set {B g : Nat} {w w' : World} (h : Below B w w') (hg : B ≤ g) (i : Nat) (u : Value) : Below B w (w'.setCell ⟨g, i, none⟩ u) := h.setCell hg u

/-- What is wrong with a literal that is defined, that is used. -/
def defE (tb : List Bool) (l : Int) : Int := if l < 2 ∨ l % 2 = 1 ∨ (tb.length : Int) ≤ l / 2 then 30 else if tb.getD (l / 2).toNat false then 31 else 0
def defT (tb : List Bool) (l : Int) : List Bool := if defE tb l = 0 then tb.set (l / 2).toNat true else tb
def useE (tb : List Bool) (l : Int) : Int := if l < 0 ∨ (tb.length : Int) ≤ l / 2 then 30 else if tb.getD (l / 2).toNat false then 0 else 32
theorem defT_len (tb : List Bool) (l : Int) : (defT tb l).length = tb.length := by unfold defT; split <;> simp
/-- The first thing that is wrong, with its number. -/
def firstE {α : Type} (f : α → Int) : List α → Nat → Int × Int
  | [], _ => (0, 0)
  | x :: r, i => if f x = 0 then firstE f r (i + 1) else ((i : Int), f x)
def thenE (a b : Int × Int) : Int × Int := if a.2 = 0 then b else a
/-- Things that are defined, one behind the other: what is wrong first, and the table behind it. -/
def defAll {α : Type} (lit : α → Int) (bad : α → Int) : List α → Nat → List Bool → (Int × Int) × List Bool
  | [], _, tb => ((0, 0), tb)
  | x :: r, i, tb => if defE tb (lit x) = 0 then (if bad x = 0 then defAll lit bad r (i + 1) (defT tb (lit x)) else (((i : Int), bad x), defT tb (lit x))) else (((i : Int), defE tb (lit x)), tb)
theorem drop_one {α : Type} {xs : List α} {k : Nat} {x : α} (h : xs[k]? = some x) : xs.drop k = x :: xs.drop (k + 1) := by
  obtain ⟨hk, rfl⟩ := List.getElem?_eq_some_iff.1 h
  exact List.drop_eq_getElem_cons hk
theorem drop_all {α : Type} {xs : List α} {k : Nat} (h : xs.length ≤ k) : xs.drop k = [] := List.drop_eq_nil_of_le h
theorem tdiv_nn {a b : Int} (h : 0 ≤ a) : a.tdiv b = a / b := Int.tdiv_eq_ediv_of_nonneg h
end Go.Proofs.Ytdodhbfplglbkaa

import Derived.Test.YtjbglgmbnjdhcaaGreatRenA
namespace Go.Proofs.YtjbglgmbnjdhcaaGreat
open Go.RowKit

theorem Cop.below {w w' : World} {B : Nat} {V : CV} {us : List Value} {C : Circ} (h : Cop w B V us C) (hb : Below w.heap.size w w') : Cop w' B V us C :=
 ⟨⟨fun p hp => own_below (h.fam.own p hp) hb,h.fam.apart⟩,h.ul,own_below h.j hb,own_below h.l hb,own_below h.a hb,own_below h.s hb,own_below h.t hb⟩
theorem Cop.in_ {w : World} {B : Nat} {V : CV} {us : List Value} {C : Circ} (h : Cop w B V us C) : C.In w V := by
 have five_ : ∀ {v : Value} {L : List Int},(v,L) ∈ five V C ++ us.zip C.justice → RowE 1 encI w v L:=fun hm => own_rowe lenI (by rw [flat_ints]; exact h.fam.own _ hm)
 refine ⟨five_ (by simp),own_rowe lenT h.l,five_ (by simp),five_ (by simp),five_ (by simp),⟨us,own_rowe lenV (by rw [flat_vals]; exact h.j),h.ul,fun i u zs hu hz => five_ (List.mem_append_right _ (List.mem_iff_getElem?.2 ⟨i,by rw [List.getElem?_zip_eq_some]; exact ⟨hu,hz⟩⟩))⟩,five_ (by simp),own_rowe lenT h.a,own_rowe lenS h.s,own_rowe lenB h.t⟩
theorem Cop.base {w : World} {B B' : Nat} {V : CV} {us : List Value} {C : Circ} (h : Cop w B V us C) (hB : B' ≤ B) : Cop w B' V us C :=
 ⟨⟨fun p hp => own_base (h.fam.own p hp) hB,h.fam.apart⟩,h.ul,own_base h.j hB,own_base h.l hB,own_base h.a hB,own_base h.s hB,own_base h.t hB⟩
structure RnL (w2 X wx : World) (bo : Nat) (OUT : Array Value) (gm n : Nat) (M : List Int) (V : CV) (us : List Value) (C : Circ) (v6 : Value) (LV : List Value) (R : List (Value × List Int)) : Prop where
 below : Below w2.heap.size X wx
 fam : Fam wx w2.heap.size R
 lv : wx.ownsRow w2.heap.size 22 1 v6 LV.length LV
 box : Blk wx bo 29 OUT
 bm : Blk wx w2.heap.size 22 #[.slice (some ⟨gm,0,none⟩) n n]
 nums : Nums wx gm M
 gml : gm < w2.heap.size
 j : wx.ownsRow w2.heap.size 22 1 V.j us.length us
 l : wx.ownsRow w2.heap.size 46 3 V.l C.latches.length (C.latches.flatMap encT)
 a : wx.ownsRow w2.heap.size 48 3 V.a C.ands.length (C.ands.flatMap encT)
 s : wx.ownsRow w2.heap.size 99 3 V.s C.symbols.length (C.symbols.flatMap encS)
 t : wx.ownsRow w2.heap.size 9 1 V.t C.comments.length (C.comments.flatMap encB)
section
variable {w2 X wx : World} {bo : Nat} {OUT : Array Value} {gm n : Nat} {M : List Int} {V : CV} {us : List Value} {C : Circ} {v6 : Value} {LV : List Value} {R : List (Value × List Int)}
theorem RnL.row (h : RnL w2 X wx bo OUT gm n M V us C v6 LV R) {p : Nat} {v : Value} {L : List Int} (hp : R[p]? = some (v,L)) : wx.ownsRow w2.heap.size 3 1 v L.length (L.map (Value.int .i64)) := h.fam.own (v,L) (List.mem_of_getElem? hp)
theorem RnL.set_ (h : RnL w2 X wx bo OUT gm n M V us C v6 LV R) {p : Nat} {g cap : Nat} {N : Nat} {L : List Int} (hp : R[p]? = some (.slice (some ⟨g,0,none⟩) N cap,L)) {k : Nat} (hk : k < L.length) (x : Int) :
 RnL w2 X (wx.setCell ⟨g,k,none⟩ (.int .i64 x)) bo OUT gm n M V us C v6 LV (R.set p (.slice (some ⟨g,0,none⟩) N cap,L.set k x)):=by
 have hrow:=h.row hp
 obtain ⟨g',cap',hv,hB,_,_,hglt,_,_,hset⟩:=own_cells hrow (by omega)
 injection hv with e1 e2 e3
 injection e1 with e1
 injection e1 with e1
 subst e1 e2 e3
 obtain ⟨cs,hblk⟩ : ∃ cs,Blk wx g 3 cs:=by
  rcases hrow.2 with ⟨h0,_⟩ | ⟨g',cap2,cur,hv',_,hh,_⟩
  · omega
  · injection hv' with e1
    injection e1 with e1
    injection e1 with e1
    subst e1
    exact ⟨cur,hh⟩
 have hk2 : ∀ {t : TypeId} {k' n B : Nat} {v : Value} {xs : List Value},wx.ownsRow B t k' v n xs → t ≠ 3 → (wx.setCell ⟨g,k,none⟩ (.int .i64 x)).ownsRow B t k' v n xs:=fun ho ht =>
  own_of_block ho fun g2 hg2 => Below.heap_setCell _ _ _ _ (fun e => own_blk_ne ho hblk ht (by rw [hg2,e]))
 refine ⟨h.below.setCell hB _,?_,hk2 h.lv (by decide),Blk.far h.box (fun e => h.box.ne_ hblk (by decide) e) _,Blk.far h.bm (fun e => h.bm.ne_ hblk (by decide) e) _,Blk.far h.nums (by have:=h.gml; simp; omega) _,h.gml,hk2 h.j (by decide),hk2 h.l (by decide),hk2 h.a (by decide),hk2 h.s (by decide),hk2 h.t (by decide)⟩
 have:=h.fam.upd (w':=wx.setCell ⟨g,k,none⟩ (.int .i64 x)) (v':=.slice (some ⟨g,0,none⟩) L.length cap) (l':=L.set k x) hp (fun g2 _ _ hne => Below.heap_setCell _ _ _ _ (fun e => hne (by rw [e]; rfl))) (by rw [List.length_set]; exact hset k hk x) (.inl rfl)
 exact this
end
open Go.RowKit

section
variable {w2 X wx : World} {bo : Nat} {OUT : Array Value} {gm n : Nat} {M : List Int} {V : CV} {us : List Value} {C : Circ} {v6 : Value} {LV : List Value} {R : List (Value × List Int)}
theorem RnL.alloc (h : RnL w2 X wx bo OUT gm n M V us C v6 LV R) (o : Obj) : RnL w2 X (wx.alloc o) bo OUT gm n M V us C v6 LV R := by
 have hk : ∀ {t : TypeId} {k' n B : Nat} {v : Value} {xs : List Value},wx.ownsRow B t k' v n xs → (wx.alloc o).ownsRow B t k' v n xs:=fun ho => ho.alloc o
 exact ⟨h.below.trans ⟨rfl,rfl,rfl,by simp,fun k hk => by
  rcases Nat.lt_or_ge k wx.heap.size with hlt | hge
  · exact Below.heap_alloc _ _ _ hlt
  · have:=Blk.lt h.bm
    omega⟩,⟨fun p hp => hk (h.fam.own p hp),h.fam.apart⟩,hk h.lv,h.box.alloc o,h.bm.alloc o,Blk.alloc h.nums o,h.gml,hk h.j,hk h.l,hk h.a,hk h.s,hk h.t⟩
theorem RnL.drew (h : RnL w2 X wx bo OUT gm n M V us C v6 LV R) : RnL w2 X wx.drew bo OUT gm n M V us C v6 LV R :=
 ⟨h.below.drew,⟨fun p hp => own_of_block (h.fam.own p hp) fun _ _ => rfl,h.fam.apart⟩,own_of_block h.lv fun _ _ => rfl,h.box,h.bm,h.nums,h.gml,own_of_block h.j fun _ _ => rfl,own_of_block h.l fun _ _ => rfl,own_of_block h.a fun _ _ => rfl,own_of_block h.s fun _ _ => rfl,own_of_block h.t fun _ _ => rfl⟩
end
open Go.RowKit

theorem results_cell_two {fn : Func} {p q r : Tmp} {ty : TypeId} {P : Program} (h : fn.results = #[.cell p ty,.tmp q,.tmp r]) (tmps : Array Value) (w : World) (g : Nat) (t : TypeId) (cs : Array Value) (fr : Nat × Nat) (d : TypeDesc)
 (hp : tmps.getD p undef = .pointer (some ⟨g,0,none⟩)) (hg : w.heap[g]? = some (.cells cs t fr))
 (hu : P.underlying ty = some d) (hd : (match d with | .struct _ | .array _ _ => true | _ => false) = true) (hi : (P.info? ty).map (·.size) = some cs.size) (v u : Value) (hv : tmps.getD q undef = v) (hu2 : tmps.getD r undef = u) :
 (results fn tmps).run P w = .ok (.tuple #[.agg cs,v,u]) w:=by
 have hp' : tmps[p]?.getD undef = .pointer (some ⟨g,0,none⟩):=by simpa using hp
 subst hv hu2
 have hl:=run_loadVar_row w g t ty cs fr d hg hu (by cases d <;> first | rfl | exact hd) hi
 simp [results,h,hp',asAddr,hl]
end Go.Proofs.YtjbglgmbnjdhcaaGreat

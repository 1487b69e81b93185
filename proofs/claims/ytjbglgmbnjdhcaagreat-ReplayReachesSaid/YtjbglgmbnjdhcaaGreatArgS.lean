import Derived.Test.YtjbglgmbnjdhcaaGreatArgR
import Derived.Test.YtjbglgmbnjdhcaaGreatSimN
namespace Go.Proofs.YtjbglgmbnjdhcaaGreat
open Go.ChangeShapes Go.WideShapes Go.ChangeAt Go.RowKit

structure Tr.Reach (t : Tr) : Prop where
 i : t.init.length ≤ 140737488351232
 r : t.rows.length * 24 ≤ 140737488351232
 rs : ∀ r ∈ t.rows,r.length ≤ 140737488351232
 l : I64 t.loop
section
variable {H : Type} {enc : TypeId × Value → H} {W : World}
theorem one_bool : Tryz.prog.cellsOf 4 = 1 := by kernel_rfl
theorem one_bools : Tryz.prog.cellsOf 30 = 1 := by kernel_rfl
theorem cell_boolS {cs : List Value} {n : Nat} {x : DataW H × List MemPlace} (h : DataW.trod enc Tryz.prog W 0 (fun _ => true) true n 4 cs = some x) : ∃ z,cs = encO z ∧ True := by
 obtain ⟨b,h1,_⟩:=DataW.trod_bool Tryz.underlying4 h
 exact ⟨b,h1,trivial⟩
set_option maxRecDepth 10000 in
set_option maxHeartbeats 1000000 in
theorem arg_trace {base : Nat} {v : Value} {d : DataW H} {ps : List MemPlace}
 (hval : Value.okWide Tryz.prog W .any base 33 v) (h : DataW.Trod enc Tryz.prog W 0 (fun _ => true) true 33 v d ps) (hlt : ∀ x ∈ ps,x.block < W.heap.size)
 (hsz : (d.weights Tryz.prog 33).all (· ≤ reachBytes) = true) :
 ∃ (U : TV) (t : Tr),v = TV.val U t.loop ∧ t.In W U ∧ t.Reach:=by
 obtain ⟨cs,rfl,hcs⟩:=okWide_struct Tryz.underlying33 hval
 obtain ⟨fuel,hf⟩:=h
 obtain ⟨xs,n,_,hx,hl,hxl,hfi⟩:=DataW.trod_struct Tryz.underlying33 hf
 simp only [Prod.mk.injEq] at hx
 obtain ⟨rfl,rfl⟩:=hx
 have hcl : cs.size = 3:=by rw [hcs]; kernel_rfl
 obtain ⟨l⟩:=cs
 match l,hcl with
 | [c0,c1,c2],_ =>
 match xs,hxl with
 | [y0,y1,y2],_ =>
 have f0:=hfi 0 _ rfl
 have f1:=hfi 1 _ rfl
 have f2:=hfi 2 _ rfl
 simp [Value.cells,one_int,one_bools,show Tryz.prog.cellsOf 31 = 1 by kernel_rfl] at f0 f1 f2
 have hlt' : ∀ y ∈ [y0,y1,y2],∀ x ∈ y.2,x.block < W.heap.size:=fun y hy x hxy => hlt x (List.mem_flatMap.2 ⟨y,hy,hxy⟩)
 rw [DataW.weights,Tryz.underlying33] at hsz
 obtain ⟨v0,zi,e0,ri,di⟩:=arg_run (enc':=encO) (Q:=fun _ _ => True) Tryz.underlying30 one_bool lenO (by omega) (fun cs n x _ h _ => cell_boolS h) f0 (hlt' y0 (by simp))
 obtain ⟨v1,vs,e1,rj,dj⟩:=arg_run (enc':=encV) (Q:=fun u x => ∃ zs,RowE 1 encO W u zs ∧ ReadsAs (fun _ _ => True) x zs) Tryz.underlying31 one_bools lenV (by omega) (fun cs n x hl h hx => by
  obtain ⟨v,zs,e,h1,h2⟩:=arg_run (enc':=encO) (Q:=fun _ _ => True) Tryz.underlying30 one_bool lenO (by omega) (fun cs n x _ h _ => cell_boolS h) h hx
  exact ⟨v,e,zs,h1,h2⟩) f1 (hlt' y1 (by simp))
 obtain ⟨lp,e2,hlp⟩:=cell_int f2
 simp only [encI,List.cons.injEq,and_true] at e0 e1 e2
 subst e0 e1 e2
 have wi:=list_allR Tryz.underlying30 (b:=1) (by kernel_rfl) di (each_all hsz (j:=0) rfl rfl)
 have wj:=list_allR Tryz.underlying31 (b:=24) (by kernel_rfl) dj (each_all hsz (j:=1) rfl rfl)
 have hjj : ∀ i,i < vs.length → ∃ js : List Bool,RowE 1 encO W (vs.getD i undef) js ∧ js.length ≤ 140737488351232:=fun i hi => by
  have hu:=List.getElem?_eq_getElem hi
  obtain ⟨x,⟨js,h1,h2⟩,h3⟩:=wj.2 i _ hu
  have h4:=list_allR Tryz.underlying30 (b:=1) (by kernel_rfl) h2 h3
  exact ⟨js,by simpa [List.getD,hu] using h1,by simpa using h4.1⟩
 obtain ⟨J,hJ⟩:=Go.Deep.choose_lt hjj
 refine ⟨⟨c0,c1⟩,⟨zi,(List.range vs.length).map J,lp⟩,rfl,⟨ri,⟨vs,rj,by simp,fun i u q hu hq => ?_⟩⟩,⟨by simpa using wi.1,by simpa using wj.1,fun q hq => ?_,hlp⟩⟩
 · have hi : i < vs.length:=(List.getElem?_eq_some_iff.1 hu).1
   simp [hi] at hq
   subst hq
   have:=(hJ i hi).1
   simpa [List.getD,hu] using this
 · obtain ⟨i,hi,rfl⟩:=List.mem_map.1 hq
   exact (hJ i (List.mem_range.1 hi)).2
end
end Go.Proofs.YtjbglgmbnjdhcaaGreat

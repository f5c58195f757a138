/- Texts of one layer, one behind the other. -/
import Derived.Test.YtmngcecomcadkaaGreatDoorCH1
import Derived.Test.YtmngcecomcadkaaGreatDoorCH3
import Derived.Test.YtmngcecomcadkaaGreatDoorProg
set_option maxRecDepth 100000
set_option maxHeartbeats 8000000
namespace Go.Proofs.YtmngcecomcadkaaGreatDoor
open Go.RowKit
set_option linter.unusedVariables false
def cpl (z:Int):Int:=bits BinOp.xor IntKind.u8 (if IntKind.u8.signed=true then -1 else IntKind.u8.max) z
structure Lists (m bl base:Nat) (w:World) (vs:Nat→Value) (zs:Nat→List Int):Prop where
 cell:∀i,i<m→w.cell? ⟨bl,i,none⟩=some (vs i)
 own:∀i,i<m→Own .u8 5 base w (vs i) (zs i)
 apart:∀i j,i<m→j<m→i≠j→(vs i).ownBlock=none∨(vs i).ownBlock≠(vs j).ownBlock
 table:∀i,i<m→(vs i).ownBlock≠some bl
 lens:∀i,i<m→(zs i).length≤150000000000000
structure Copies (m bl base:Nat) (w0 wr:World) (vs us:Nat→Value) (zs:Nat→List Int) (k:Nat):Prop where
 cell:∀i,i<m→wr.cell? ⟨bl,i,none⟩=some (vs i)
 was:∀i,i<m→wr.cell? ⟨w0.heap.size,i,none⟩=some (us i)
 new:∀i,i<m→Own .u8 5 (w0.heap.size+1) wr (us i) (zs i)
 done:∀i,i<k→i<m→Own .u8 5 base wr (vs i) ((zs i).map cpl)
 left:∀i,k≤i→i<m→Own .u8 5 base wr (vs i) (zs i)
 below:Below base w0 wr
 keep:∀g,g<w0.heap.size→(∀i,i<m→(vs i).ownBlock≠some g)→wr.heap[g]? =w0.heap[g]?
def two {α:Type} (a b:α):Nat→α|0=>a|_=>b
def xI (F:Nat→Prop) (w:World) (v:Value) (zs:List Int):Prop:=Is .u8 w v zs∧∀b,v.ownBlock=some b→F b∧∃cs fr,w.heap[b]? =some (.cells cs 5 fr)
theorem xI.nil (F:Nat→Prop)(w:World):xI F w (.slice none 0 0) []:=⟨Is.nil _ _,fun b hb=>by simp[Value.ownBlock]at hb⟩
theorem xI.agree {F:Nat→Prop}{w w':World}{v:Value}{zs:List Int}(h:xI F w v zs)(ha:∀b,v.ownBlock=some b→w'.heap[b]? =w.heap[b]?):xI F w' v zs:=
 ⟨h.1.agree ha,fun b hb=>⟨(h.2 b hb).1,by obtain⟨_,cs,fr,hc⟩:=h.2 b hb;exact⟨cs,fr,(ha b hb).trans hc⟩⟩⟩
theorem ny (g:Nat):∀(vs:List Value) (o:Nat) (w:World),w.grownBy (w.setCells g o vs) (some g)
 |[],_,w=>World.grownBy.refl _ _
 |v::r,o,w=>aG (az w ⟨g,o,none⟩ v) (ny g r (o+1) _)
theorem sK {g:Nat}{t:TypeId}{fr:Nat×Nat}:∀(vs:List Value) (o:Nat) (w:World) (cur:Array Value),w.heap[g]? =some (.cells cur t fr)→∃cur',(w.setCells g o vs).heap[g]? =some (.cells cur' t fr)∧cur'.size=cur.size∧∀j,j<o→cur'[j]? =cur[j]?
 |[],_,w,cur,h=>⟨cur,h,rfl,fun _ _=>rfl⟩
 |v::r,o,w,cur,h=>by
  obtain⟨cur',h1,h2,h3⟩:=sK r (o+1) (w.setCell ⟨g,o,none⟩ v) _ (aH h o v)
  refine⟨cur',h1,by rw[h2];simp,fun j hj=>?_⟩
  rw[h3 j (by omega),Array.getElem?_setIfInBounds,if_neg (by omega)]
theorem wW {w:World}{base e size g n cap:Nat}{xs:List Value}(h:w.ownsRow base e size (.slice (some ⟨g,0,none⟩) n cap) n xs)(o:Nat)(ho:n*size≤o)(vs:List Value):(w.setCells g o vs).ownsRow base e size (.slice (some ⟨g,0,none⟩) n cap) n xs:=by
 refine⟨h.1,?_⟩
 rcases h.2 with⟨h',_⟩|⟨g',cap',cur,h',hb,hg,hnc,hcm,hcs,htake⟩
 ·simp at h'
 ·simp only[Value.slice.injEq,Option.some.injEq,Addr.mk.injEq,and_true,true_and]at h'
  obtain⟨rfl,rfl⟩:=h'
  obtain⟨cur',h1,h2,h3⟩:=sK vs o w cur hg
  refine .inr ⟨g,cap,cur',rfl,hb,h1,hnc,hcm,by rw[h2,hcs],?_⟩
  rw[←htake]
  apply List.ext_getElem?
  intro i
  rw[List.getElem?_take,List.getElem?_take]
  split
  ·rw[Array.getElem?_toList,Array.getElem?_toList,h3 i (by omega)]
  ·rfl
theorem sP {P:Program}{n:Nat}(w:World)(t e ty:TypeId)(z:Value)(ht:P.underlying t=some (.slice e))(hv:∀w,(zeroValue e).run P w=.ok z w)(h1:∀u∈(Builtin.zeroCells z.cells n).toList,u.oneCell'=true)(b o c:Nat)(hn:0<n)
  (hc:∀j,j<(Builtin.zeroCells z.cells n).toList.length→(w.cell? ⟨b,o+j,none⟩).isSome=true) (hf:∀j,j<(Builtin.zeroCells z.cells n).toList.length→w.frozen? ⟨b,o+j,none⟩=false):
  (Builtin.clear_ #[t] ty #[.slice (some ⟨b,o,none⟩) n c]).run P w=.ok (.tuple #[]) (w.setCells b o (Builtin.zeroCells z.cells n).toList):=by
 have hst:=run_storeCells_cells (P:=P) b o (Builtin.zeroCells z.cells n).toList 0 w (by simpa using hc) (by simpa using hf) h1
 simp only[Nat.add_zero]at hst
 obtain⟨m,rfl⟩:∃m,n=m+1:=⟨n-1,by omega⟩
 simp[Builtin.clear_,run_underlying ht,hv,hst]
theorem vS (z:Array Value)(n:Nat):(Builtin.zeroCells z n).toList.length=n*z.size:=by
 rw[Array.length_toList,size_zeroCells]
theorem vR {z:Array Value}(n:Nat)(hz:∀u∈z,u.oneCell'=true):∀u∈(Builtin.zeroCells z n).toList,u.oneCell'=true:=by
 intro u hu
 unfold Builtin.zeroCells at hu
 rw[Array.toList_map,Array.toList_range,List.mem_map]at hu
 obtain⟨i,hi,rfl⟩:=hu
 rw[List.mem_range]at hi
 have h0:0<z.size:=Nat.pos_of_ne_zero fun h=>by rw[h]at hi;simp at hi
 have hlt:i % z.size<z.size:=Nat.mod_lt _ h0
 rw[getElem!_pos z _ hlt]
 exact hz _ (Array.getElem_mem hlt)
section
variable {α:Type} {P:Program} {w:World} {v:Value}
theorem gP.gq {f:α→List Value}{k:Nat}(hk:∀a,(f a).length=k){l:List α}(h:gP f w v l){t:TypeId}(ht:P.underlying t=some (.slice (P.elem t)))(hs:∀wx,(sizeOf (P.elem t)).run P wx=.ok k wx)(p:Nat)(hp:p≤l.length):
  ∃vs,(∀wx,(Instr.slice t v (some (.int .i64 p)) none none).run P wx=.ok vs wx)∧gP f w vs (l.drop p):=by
 have hlen:(l.drop p).length=l.length-p:=by rw[List.length_drop]
 rcases h with⟨hv,hz⟩|⟨ad,cap,hv,h1,h2,hc⟩
 ·subst hz hv
  obtain rfl:p=0:=by simpa using hp
  refine⟨.slice none 0 0,fun wx=>?_,gP.nil _ _⟩
  rw[run_slice_l wx t none 0 0 ht .i64 _ (by omega) (by omega)]
  simp[Result.andThen,sliced,hs]
 ·subst hv
  by_cases hcl:cap=p
  ·refine⟨.slice (some ad) (l.length-p) (cap-p),fun wx=>?_,.inr ⟨ad,cap-p,by rw[hlen],by rw[hlen];omega,by omega,fun j u hj=>?_⟩⟩
   ·rw[run_slice_l wx t (some ad) l.length cap ht .i64 _ (by omega) (by omega),hs]
    simp[Result.andThen,sliced,hcl]
   ·rw[List.drop_eq_nil_of_le (by omega)]at hj
    simp[gcells]at hj
  ·refine⟨.slice (some (ad.add (p*k))) (l.length-p) (cap-p),fun wx=>?_,.inr ⟨ad.add (p*k),cap-p,by rw[hlen],by rw[hlen];omega,by omega,fun j u hj=>?_⟩⟩
   ·rw[run_slice_l wx t (some ad) l.length cap ht .i64 _ (by omega) (by omega),hs]
    simp[Result.andThen,sliced,hcl]
   ·have e:(ad.add (p*k)).add j=ad.add (p*k+j):=by
     unfold Addr.add
     by_cases h0:p*k=0<;>by_cases h3:j=0<;>simp[h0,h3,Nat.add_assoc]
    rw[zg hk,List.getElem?_drop]at hj
    rw[e]
    exact hc _ u hj
end
theorem asn:Array.replicate 11 false=dH 11 0:=by kernel_rfl
theorem anS:(aC 25 Tryz.f3).size=11:=by kernel_rfl
theorem ane:bJ (aC 25 Tryz.f3) 11 0 0 1=true:=by kernel_rfl
theorem apI:bJ (aC 25 Tryz.f3) 11 1 2 5=true:=by kernel_rfl
theorem aty:fA (aC 25 Tryz.f3) 11 5 [1] [7]=true:=by kernel_rfl
theorem auO:fA (aC 25 Tryz.f3) 11 7 [3] [15]=true:=by kernel_rfl
theorem alL:bJ (aC 25 Tryz.f3) 11 15 4 31=true:=by kernel_rfl
theorem ami:bJ (aC 25 Tryz.f3) 11 31 5 63=true:=by kernel_rfl
theorem akR:bJ (aC 25 Tryz.f3) 11 63 6 127=true:=by kernel_rfl
theorem ai9:bJ (aC 25 Tryz.f3) 11 127 7 255=true:=by kernel_rfl
theorem anc:fA (aC 25 Tryz.f3) 11 255 [8] [511]=true:=by kernel_rfl
theorem ajk:bJ (aC 25 Tryz.f3) 11 511 9 1023=true:=by kernel_rfl
theorem afo:bJ (aC 25 Tryz.f3) 11 1023 10 2047=true:=by kernel_rfl
theorem asN:Region.ready .any (aC 25 Tryz.f3) (dH 11 2047)=[]:=by kernel_rfl
end Go.Proofs.YtmngcecomcadkaaGreatDoor

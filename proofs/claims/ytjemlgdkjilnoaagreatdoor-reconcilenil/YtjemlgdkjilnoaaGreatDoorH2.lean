/- Texts of one layer, one behind the other. -/
import Derived.Test.YtjemlgdkjilnoaaGreatDoorH1
import Derived.Test.YtjemlgdkjilnoaaGreatDoorM1
import Derived.Maps.OwnSet
import Derived.BigQuiet
import Derived.Lib.SliceRun
import Derived.Shelf.Abstract
import Derived.Test.YtjemlgdkjilnoaaGreatDoorG1
set_option maxRecDepth 100000
set_option maxHeartbeats 8000000
namespace Go.Proofs.YtjemlgdkjilnoaaGreatDoor
open Go.RowKit
set_option linter.unusedVariables false
structure Out (F:Nat→Prop) (w w':World):Prop where
 os:w'.os=w.os
 tape:w'.tape=w.tape
 output:w'.output=w.output
 size:w.heap.size≤w'.heap.size
 block:∀g,g<w.heap.size→¬F g→w'.heap[g]? =w.heap[g]?
theorem Out.refl (F:Nat→Prop)(w:World):Out F w w:=⟨rfl,rfl,rfl,Nat.le_refl _,fun _ _ _=>rfl⟩
theorem Out.trans {F G:Nat→Prop}{w w1 w2:World}(h:Out F w w1)(k:Out G w1 w2)(hs:∀g,G g→F g∨w.heap.size≤g):Out F w w2:=
 ⟨k.os.trans h.os,k.tape.trans h.tape,k.output.trans h.output,Nat.le_trans h.size k.size,fun g hg hn=>(k.block g (Nat.lt_of_lt_of_le hg h.size) fun hG=>by
  rcases hs g hG with h1|h1
  ·exact hn h1
  ·omega).trans (h.block g hg hn)⟩
theorem Out.mono {F G:Nat→Prop}{w w':World}(h:Out F w w')(hs:∀g,F g→G g∨w.heap.size≤g):Out G w w':=
 ⟨h.os,h.tape,h.output,h.size,fun g hg hn=>h.block g hg fun hF=>by
  rcases hs g hF with h1|h1
  ·exact hn h1
  ·omega⟩
theorem Out.of_below {F:Nat→Prop}{w w':World}(h:Below w.heap.size w w'):Out F w w':=⟨h.os,h.tape,h.output,h.size,fun g hg _=>h.block g hg⟩
theorem Out.aV {F:Nat→Prop}{w w':World}{row:Option Nat}(h:w.grownBy w' row)(hF:∀g,row=some g→F g):Out F w w':=
 ⟨h.os,h.tape,h.output,h.size,fun g hg hn=>h.block g hg fun e=>hn (hF g e.symm)⟩
theorem Out.below {F:Nat→Prop}{w w':World}{base:Nat}(h:Out F w w')(hF:∀g,F g→base≤g)(hb:base≤w.heap.size):Below base w w':=
 ⟨h.os,h.tape,h.output,h.size,fun g hg=>h.block g (Nat.lt_of_lt_of_le hg hb) fun hf=>by have:=hF g hf;omega⟩
theorem Out.drew {F:Nat→Prop}{w w':World}(h:Out F w w')(n:Nat):Out F w (w'.drewN n):=⟨h.os,h.tape,h.output,h.size,h.block⟩
theorem Is.agree {k:IntKind}{w w':World}{v:Value}{zs:List Int}(h:Is k w v zs)(hb:∀b,v.ownBlock=some b→w'.heap[b]? =w.heap[b]?):Is k w' v zs:=by
 refine⟨h.1,?_⟩
 rcases h.2 with h|⟨ad,cap,hv,h1,h2,hc⟩
 ·exact .inl h
 ·refine .inr ⟨ad,cap,hv,h1,h2,fun i hi=>?_⟩
  rw[World.cell?_of_block (show w'.heap[(ad.add i).block]? =w.heap[(ad.add i).block]? from ?_)]
  ·exact hc i hi
  ·have e:(ad.add i).block=ad.block:=by unfold Addr.add;split<;>rfl
   rw[e]
   exact hb ad.block (by rw[hv];rfl)
theorem dm {w w':World}{base e size n:Nat}{v:Value}{xs:List Value}(h:w.ownsRow base e size v n xs)(hb:∀b,v.ownBlock=some b→w'.heap[b]? =w.heap[b]?):w'.ownsRow base e size v n xs:=by
 refine⟨h.1,?_⟩
 rcases h.2 with h|⟨g,cap,cur,hv,h1,hh,r⟩
 ·exact .inl h
 ·refine .inr ⟨g,cap,cur,hv,h1,?_,r⟩
  rw[hb g (by rw[hv];rfl)]
  exact hh
theorem Is.lt {k:IntKind}{w:World}{v:Value}{zs:List Int}(h:Is k w v zs)(hne:0<zs.length):∀b,v.ownBlock=some b→b<w.heap.size:=by
 intro b hb
 obtain⟨g,off,cap,rfl,_,_,hB,_⟩:=h.full hne
 simp[Value.ownBlock]at hb
 omega
end Go.Proofs.YtjemlgdkjilnoaaGreatDoor
namespace Go.Proofs.YtjemlgdkjilnoaaGreatDoor
open Go.RowKit Go.Maps
open Bm (Ov)
set_option linter.unusedVariables false
theorem Tryz.keyed:Keyed Tryz.prog 9:=string_keyed Tryz.underlying9
def Ren:Value→Option (DataW Unit×List MemPlace)
 |.agg cs=>match cs.toList with
  |[.string s,.bool b]=>some (.agg [.lit (.string s.data.toList),.lit (.bool b)],[])
  |_=>none
 |_=>none
def env (v:ByteArray) (p:Bool):Value:=.agg #[.string v,.bool p]
theorem at1 (o:Ov):Ren (env o.v o.p)=some (Tm.el o,[]):=rfl
theorem World.ownsMap.tight {P:Program}{k:TypeId}{R:Value→Option (DataW Unit×List MemPlace)}{w:World}{b n:Nat}{D:DataW Unit}(h:w.ownsMap P k R b n D):w.ownsMap P k R b (Maps.size D) D:=by
 obtain⟨es,clock,hb,F,hs,rfl⟩:=h
 exact⟨es,clock,hb,F,by simp[Maps.size,length_sorted],rfl⟩
structure Tb (p b:Nat) (w:World) (t:List Ov):Prop where
 blk:w.heap[p]? =some (.cells #[.map (some b)] 222 (0,0))
 own:w.ownsMap Tryz.prog 9 Ren b t.length (Tm.dat t)
 up:Tm.Up t
theorem Tb.plt {p b:Nat}{w:World}{t:List Ov}(h:Tb p b w t):p<w.heap.size:=ax h.blk
theorem Tb.blt {p b:Nat}{w:World}{t:List Ov}(h:Tb p b w t):b<w.heap.size:=h.own.lt
theorem Tb.agree {p b:Nat}{w w':World}{t:List Ov}(h:Tb p b w t)(h1:w'.heap[p]? =w.heap[p]?)(h2:w'.heap[b]? =w.heap[b]?):Tb p b w' t:=by
 refine⟨h1.trans h.blk,?_,h.up⟩
 obtain⟨es,clock,hb,r⟩:=h.own
 exact⟨es,clock,h2.trans hb,r⟩
theorem Tb.below {p b:Nat}{w w':World}{t:List Ov}(h:Tb p b w t)(hb:Below w.heap.size w w'):Tb p b w' t:=h.agree (hb.block p h.plt) (hb.block b h.blt)
theorem Tb.cell {p b:Nat}{w:World}{t:List Ov}(h:Tb p b w t):w.cell? ⟨p,0,none⟩=some (.map (some b)):=ai h.blk 0 rfl
theorem Tb.ne {p b:Nat}{w:World}{t:List Ov}(h:Tb p b w t):p≠b:=fun e=>by
 obtain⟨es,clock,hb,_⟩:=h.own
 have:=h.blk
 rw[e,hb]at this
 cases this
theorem Tb.row {p b:Nat}{w:World}{t:List Ov}(h:Tb p b w t){g j:Nat}{u:Value}(hc:w.cell? ⟨g,j,none⟩=some u):g≠b:=fun e=>by
 obtain⟨es,clock,hb,_⟩:=h.own
 subst e
 simp[World.cell?,hb]at hc
theorem agi (w:World)(d:Nat)(m:Option Nat):(Op.equalIn (d+1) 220 (.map m) (.map none)).run Tryz.prog w=.ok m.isNone w:=by
 have h:=Tryz.underlying220
 cases m<;>simp[Op.equalIn,run_underlying h]
theorem Tryz.asi (w:World)(m:Option Nat):(binOp .neq 220 (.map m) (.map none)).run Tryz.prog w=.ok (.bool (!m.isNone)) w:=by
 simp only[binOp]
 simp[Op.equal,Op.maxDepth,agi w 9999 m]
theorem ak9 (p b:Nat)(w:World)(hc:w.cell? ⟨p,0,none⟩=some (.map (some b))):
  Calls Tryz.prog 206 #[.pointer (some ⟨p,0,none⟩)] w fun E w'=>E=.returned (.bool true)∧w=w':=by
 have hn:=Tryz.asi w (some b)
 go_enter Tryz.func206,Tryz.ntmps206
 go_wp2
 go_ret
 exact⟨rfl,rfl⟩
theorem aoy (w:World):Calls Tryz.prog 133 #[] w fun E w'=>E=.returned (.pointer (some ⟨w.heap.size+1,0,none⟩))∧Tb (w.heap.size+1) w.heap.size w' []∧Below w.heap.size w w':=by
 obtain⟨w1,hw1⟩:∃w1,w.alloc (.map #[] 0)=w1:=⟨_,rfl⟩
 have hm1:w1.ownsMap Tryz.prog 9 Ren w.heap.size 0 (.map []):=by rw[←hw1];exact World.ownsMap_made _ _ _ _
 have aW:w1.heap.size=w.heap.size+1:=by rw[←hw1];simp
 have b1:Below w.heap.size w w1:=by rw[←hw1];exact(Below.refl _ _).alloc (Nat.le_refl _) _
 obtain⟨w2,hw2,di,b2,B2⟩:=ak w1 #[.map (some w.heap.size)] 222
 rw[aW]at B2 b2
 have H:Hid (Tb (w.heap.size+1) w.heap.size w2 []∧Below w.heap.size w w2):=hide ⟨⟨B2,by
  obtain⟨es,clock,hb,r⟩:=hm1
  exact⟨es,clock,(b2.block _ (by omega)).trans hb,r⟩,List.Pairwise.nil⟩,b1.trans (b2.mono (by omega))⟩
 have hmm:=@run_makeMap Tryz.prog
 clear hm1 b1 b2 B2
 go_enter Tryz.func133,Tryz.ntmps133
 go_wp2
 go_ret
 exact⟨rfl,H.out⟩
def gv (t:List Ov) (k:ByteArray):ByteArray:=match Tm.get t k with|some o=>o.v|none=>⟨#[]⟩
def gp (t:List Ov) (k:ByteArray):Bool:=match Tm.get t k with|some o=>o.p|none=>false
end Go.Proofs.YtjemlgdkjilnoaaGreatDoor
namespace Go.Proofs.YtjemlgdkjilnoaaGreatDoor
open Go.RowKit
set_option linter.unusedVariables false
section
variable {α:Type}
def gcells (f:α→List Value):List α→List Value
 |[]=>[]
 |a::r=>f a++gcells f r
theorem mf {f:α→List Value}{k:Nat}(hk:∀a,(f a).length=k):∀(l:List α),(gcells f l).length=l.length*k
 |[]=>by simp[gcells]
 |a::r=>by rw[gcells,List.length_append,hk,mf hk r,List.length_cons,Nat.add_mul];omega
theorem ui (f:α→List Value):∀(l m:List α),gcells f (l++m)=gcells f l++gcells f m
 |[],_=>rfl
 |a::l,m=>by simp only[List.cons_append,gcells,ui f l m,List.append_assoc]
theorem rA {f:α→List Value}{k:Nat}(hk:∀a,(f a).length=k):∀(l:List α) (i:Nat) (a:α),l[i]? =some a→∀j u,(f a)[j]? =some u→(gcells f l)[i*k+j]? =some u
 |[],_,_,h,_,_,_=>by simp at h
 |b::r,0,a,h,j,u,hj=>by
  simp at h
  subst h
  have:=(List.getElem?_eq_some_iff.1 hj).1
  rw[gcells,Nat.zero_mul,Nat.zero_add,List.getElem?_append_left this]
  exact hj
 |b::r,i+1,a,h,j,u,hj=>by
  have:=rA hk r i a (by simpa using h) j u hj
  rw[gcells,List.getElem?_append_right (by rw[hk,Nat.add_mul];omega),hk,show(i+1)*k+j-k=i*k+j by rw[Nat.add_mul];omega]
  exact this
theorem agl {f:α→List Value}{k:Nat}(hk:∀a,(f a).length=k):∀(l:List α) (p:Nat),gcells f (l.take p)=(gcells f l).take (p*k)
 |[],p=>by simp[gcells]
 |a::l,0=>by simp[gcells]
 |a::l,p+1=>by
  have h1:(f a).take ((p+1)*k)=f a:=List.take_of_length_le (by rw[hk,Nat.add_mul];omega)
  have h2:(p+1)*k-k=p*k:=by rw[Nat.add_mul];omega
  rw[List.take_succ_cons,gcells,gcells,agl hk l p,List.take_append,hk,h1,h2]
theorem zu {f:α→List Value}{k:Nat}(hk:∀a,(f a).length=k):∀(l:List α) (p:Nat),gcells f (l.drop p)=(gcells f l).drop (p*k)
 |[],p=>by simp[gcells]
 |a::l,0=>by simp[gcells]
 |a::l,p+1=>by
  have h1:(f a).drop ((p+1)*k)=[]:=List.drop_eq_nil_of_le (by rw[hk,Nat.add_mul];omega)
  have h2:(p+1)*k-k=p*k:=by rw[Nat.add_mul];omega
  rw[List.drop_succ_cons,zu hk l p,gcells,List.drop_append,hk,h1,h2,List.nil_append]
def ig (f:α→List Value) (w:World) (v:Value) (l:List α):Prop:=
 (v=.slice none 0 0∧l=[])∨∃ad cap,v=.slice (some ad) l.length cap∧l.length≤cap∧cap≤maxLen∧∀j u,(gcells f l)[j]? =some u→w.cell? (ad.add j)=some u
def dW (f:α→List Value) (k:Nat) (e:TypeId) (base:Nat) (w:World) (v:Value) (l:List α):Prop:=w.ownsRow base e k v l.length (gcells f l)
theorem ig.nil (f:α→List Value)(w:World):ig f w (.slice none 0 0) []:=.inl ⟨rfl,rfl⟩
theorem dW.nil (f:α→List Value)(k:Nat)(e:TypeId)(base:Nat)(w:World):dW f k e base w (.slice none 0 0) []:=World.ownsRow_nil _ _ _ _
theorem ig.agree {f:α→List Value}{w w':World}{v:Value}{l:List α}(h:ig f w v l)(hb:∀b,v.ownBlock=some b→w'.heap[b]? =w.heap[b]?):ig f w' v l:=by
 rcases h with h|⟨ad,cap,hv,h1,h2,hc⟩
 ·exact .inl h
 ·refine .inr ⟨ad,cap,hv,h1,h2,fun j u hj=>?_⟩
  rw[World.cell?_of_block (show w'.heap[(ad.add j).block]? =w.heap[(ad.add j).block]? from ?_)]
  ·exact hc j u hj
  ·have e:(ad.add j).block=ad.block:=by unfold Addr.add;split<;>rfl
   rw[e]
   exact hb ad.block (by rw[hv];rfl)
theorem ig.below {f:α→List Value}{w w':World}{v:Value}{l:List α}(h:ig f w v l)(hb:Below w.heap.size w w'):ig f w' v l:=by
 rcases h with h|⟨ad,cap,hv,h1,h2,hc⟩
 ·exact .inl h
 ·refine .inr ⟨ad,cap,hv,h1,h2,fun j u hj=>?_⟩
  have:=hc j u hj
  rw[hb.cell (World.block_lt_of_cell? _ _ this)]
  exact this
theorem ig.shape {f:α→List Value}{w:World}{v:Value}{l:List α}(h:ig f w v l):∃ao cap,v=.slice ao l.length cap∧l.length≤cap∧cap≤maxLen:=by
 rcases h with⟨hv,e⟩|⟨ad,cap,hv,h1,h2,_⟩
 ·subst e;exact⟨none,0,hv,by simp,by simp⟩
 ·exact⟨some ad,cap,hv,h1,h2⟩
theorem ig.full {f:α→List Value}{k:Nat}(hk:∀a,(f a).length=k)(h0:0<k){w:World}{v:Value}{l:List α}(h:ig f w v l)(hne:0<l.length):
  ∃b off cap,v=.slice (some ⟨b,off,none⟩) l.length cap∧l.length≤cap∧cap≤maxLen∧b<w.heap.size∧∀i a,l[i]? =some a→∀j u,(f a)[j]? =some u→w.cell? ⟨b,off+i*k+j,none⟩=some u:=by
 rcases h with⟨_,h⟩|⟨⟨b,off,spot⟩,cap,hv,h1,h2,hc⟩
 ·subst h;simp at hne
 ·obtain⟨a0,ha0⟩:∃a,l[0]? =some a:=⟨l[0],by rw[List.getElem?_eq_getElem]⟩
  have hf0:(f a0)[0]? =some ((f a0)[0]'(by rw[hk];exact h0)):=List.getElem?_eq_getElem (by rw[hk];exact h0)
  have g0:=hc _ _ (rA hk l 0 a0 ha0 0 _ hf0)
  have hspot:spot=none:=by simpa[Addr.add]using World.cell?_spot g0
  subst hspot
  rw[gB]at g0
  refine⟨b,off,cap,hv,h1,h2,World.block_lt_of_cell? _ _ g0,fun i a hia j u hj=>?_⟩
  have:=hc _ _ (rA hk l i a hia j u hj)
  rw[gB]at this
  rw[Nat.add_assoc]
  exact this
theorem dW.row {f:α→List Value}{k e base:Nat}{w:World}{v:Value}{l:List α}(h:dW f k e base w v l):ig f w v l:=by
 rcases h.2 with⟨hv,hn⟩|⟨g,cap,cur,hv,h1,hh,hc,hm,hs,ht⟩
 ·exact .inl ⟨hv,List.eq_nil_of_length_eq_zero hn⟩
 ·refine .inr ⟨⟨g,0,none⟩,cap,hv,hc,hm,fun j u hj=>?_⟩
  exact h.cells (by rw[hv];rfl) j u hj
theorem dW.agree {f:α→List Value}{k e base:Nat}{w w':World}{v:Value}{l:List α}(h:dW f k e base w v l)(hb:∀b,v.ownBlock=some b→w'.heap[b]? =w.heap[b]?):dW f k e base w' v l:=dm h hb
theorem dW.lt {f:α→List Value}{k e base:Nat}{w:World}{v:Value}{l:List α}(h:dW f k e base w v l):∀b,v.ownBlock=some b→base≤b∧b<w.heap.size:=World.ownsRow.lt h
theorem dW.type {f:α→List Value}{k e base:Nat}{w:World}{v:Value}{l:List α}(h:dW f k e base w v l){g:Nat}(hg:v.ownBlock=some g):∃cs,w.heap[g]? =some (.cells cs e (0,0)):=by
 rcases h.2 with⟨rfl,_⟩|⟨g',cap,cur,rfl,_,hh,_⟩
 ·simp[Value.ownBlock]at hg
 ·simp[Value.ownBlock]at hg
  subst hg
  exact⟨_,hh⟩
theorem qL (f:α→List Value)(k:Nat)(hk:∀a,(f a).length=k)(e:TypeId)(w:World)(cs:Array Value)(n:Nat)(l:List α)(hn:l.length=n)(h:cs.toList=gcells f l)(hm:n≤maxLen):
  ∃W,w.alloc (.cells cs e)=W∧W.heap.size=w.heap.size+1∧Below w.heap.size w W∧dW f k e w.heap.size W (.slice (some ⟨w.heap.size,0,none⟩) n n) l:=by
 subst hn
 refine⟨_,rfl,by simp,(Below.refl _ _).alloc (Nat.le_refl _) _,?_⟩
 have ho:=World.ownsRow_lit (base:=w.heap.size) (e:=e) (size:=k) w cs l.length (Nat.le_refl _) hm (by have:=congrArg List.length h;rw[mf hk]at this;simpa using this)
 rw[h]at ho
 exact ho
variable {P:Program} {w:World} {ops:Array Oper} {rest:List Oper} {o:Oper} {a:Act} {Q:Exit→Act→World→Prop}
theorem xw (f:α→List Value)(k bytes:Nat)(hk:∀a,(f a).length=k)(h0:0<k)(hb0:0<bytes)(z:Value)(hzk:z.cells.size=k)(hgd:o.guard=none)(s x:Operand)(t:TypeId)
  (ho:o.op=.call {callee:=.builtin .append,args:=#[s,x],argTypes:=#[t,t]})
  (e:TypeId) (base:Nat) (ht:P.underlying t=some (.slice e)) (hinfo:(P.info? e).map (fun i=>(i.zero,i.size,i.bytes))=some (some z,k,bytes))
  (v:Value) (l:List α) (hs:a.eval s=v) (hown:dW f k e base w v l) (vx:Value) (m:List α) (hx:a.eval x=vx) (his:ig f w vx m) (hone:∀u∈gcells f m,u.oneCell'=true)
  (hlen:(l.length+m.length)*bytes≤140737488355328) (hbase:base≤w.heap.size)
  (h:∀v' w',dW f k e base w' v' (l++m)→w.grownBy w' v.ownBlock→wpList P ops Q rest (a.put o.dst v') w'):wpList P ops Q (o::rest) a w:=by
 obtain⟨i,hi,hz,hsize,hb⟩:=info_parts hinfo
 have hn:l.length+m.length≤140737488355328:=Nat.le_trans (Nat.le_mul_of_pos_right _ hb0) hlen
 rcases his with⟨hv,hy⟩|⟨ad,cap,hv,h1,h2,hc⟩
 ·subst hy
  refine wpList_append_own_none hgd s x t ho base e i k ht hi v l.length _ hs hown (hx.trans hv) (h v w (by simpa using hown) (World.grownBy.refl _ _))
 ·refine wpList_append_own w hgd s x t ho base e i z k bytes ht hi hz hsize hb hzk h0 v l.length _ hs hown ad m.length cap (gcells f m) (hx.trans hv) (mf hk m) hc hone (by unfold maxLen;omega) hlen hbase ?_
  intro v' w' ho' hg _
  exact h v' w' (by unfold dW;rw[ui,List.length_append];exact ho') hg
end
theorem abg {l:List Bm.Ov}{k:Nat}{o:Bm.Ov}(h:∀q∈l.take k,q.c=0)(ho:l[k]? =some o)(hc:o.c=0):∀q∈l.take (k+1),q.c=0:=by
 obtain⟨hk,rfl⟩:=List.getElem?_eq_some_iff.1 ho
 intro q hq
 rw[List.take_succ_eq_append_getElem hk]at hq
 rcases List.mem_append.1 hq with hq|hq
 ·exact h q hq
 ·rw[List.mem_singleton.1 hq];exact hc
theorem mG (vl:Value)(l:List Bm.Ov)(w:World)(h:df w vl l)(hf:iR l)(hl:l.length≤140737488355328):
  Calls Tryz.prog 146 #[vl] w fun E w'=>E=.returned (.int .i64 (Bm.dY l))∧Below w.heap.size w w':=by
 by_cases h0:l.length=0
 ·have:l=[]:=List.eq_nil_of_length_eq_zero h0
  subst this
  obtain⟨ao,cap,rfl⟩:=h.bare
  clear h hf hl h0
  go_enter Tryz.func146,Tryz.ntmps146
  go_wp2
  go_ret
  exact⟨rfl,Below.refl _ _⟩
 ·by_cases h8:8<l.length
  ·obtain⟨ao,cap,rfl,_,_⟩:=h.shape
   rw[Bm.akf h8]
   clear h hf
   have e0:((l.length:Int)==0)=false:=by rw[beq_eq_false_iff_ne];omega
   have e8:(8:Int)<l.length:=by omega
   go_enter Tryz.func146,Tryz.ntmps146
   go_wp2
   go_ret
   exact⟨rfl,Below.refl _ _⟩
  ·obtain⟨b1,o1,c1,rfl,_,_,hB,hcell⟩:=h.full (by omega)
   rw[Bm.aoA h0 h8]
   have e0:((l.length:Int)==0)=false:=by rw[beq_eq_false_iff_ne];omega
   have e8:¬(8:Int)<l.length:=by omega
   clear h
   generalize hn:l.length=n at*
   have HN:=hide hn
   have HC:=hide hcell
   have HF:=hide hf
   clear hn hcell hf
   go_enter Tryz.func146,Tryz.ntmps146
   go_wp2
   go_loopw [14] (fun i wr=>∃(k:Nat),k≤n∧i=.int .i64 k∧Hid (∀q∈l.take k,q.c=0)∧Below w.heap.size w wr) (fun i _=>n-(intOf i).toNat)
   case atStart=>exact⟨0,by omega,rfl,hide (by simp),Below.refl _ _⟩
   case round=>
    obtain⟨k,hk,rfl,HT,aG⟩:=hrel
    by_cases hlt:k<n
    ·obtain⟨o,ho⟩:∃o,l[k]? =some o:=⟨l[k]'(by have:=HN.out;omega),by rw[List.getElem?_eq_getElem]⟩
     obtain⟨c0,c1,c2⟩:=HC.out k o ho
     have sz:=aG.size
     have d0:=(aG.cell (p:=⟨b1,o1+k*3,none⟩) hB).trans c0
     have d1:=(aG.cell (p:=⟨b1,o1+k*3+1,none⟩) hB).trans c1
     have d2:=(aG.cell (p:=⟨b1,o1+k*3+2,none⟩) hB).trans c2
     have HO:=hide ho
     clear c0 c1 c2 ho
     have hlt':(k:Int)<n:=by omega
     obtain⟨hk1,hv1⟩:=HF.out o (List.mem_of_getElem? HO.out)
     go_wp2_with fail
     refine(lW o.p o.k o.v _ hk1 hv1).mono ?_
     rintro E w1 ⟨rfl,aj⟩
     have dB:Below wr.heap.size wr (wr.alloc (.cells #[.bool o.p,.string o.k,.string o.v] 92)):=(Below.refl _ _).alloc (Nat.le_refl _) _
     have au:Below w.heap.size w w1:=(aG.trans (dB.mono sz)).trans (aj.mono (by simp;omega))
     clear dB aj d0 d1 d2
     rcases(show Om.chk o.p o.k.data.toList o.v.data.toList=0∨_ from Om.yH _ _ _)with hc|hc
     ·rw[hc]
      have HT2:=hide (abg HT.out HO.out hc)
      clear hc
      go_wp2
      go_roundw
      case rel=>exact⟨k+1,by omega,by go_num,HT2,au⟩
      case measure=>simp[intOf];omega
     ·rw[hc]
      have HB:=hide (Bm.adj (List.mem_of_getElem? HO.out) (show Bm.Ov.c o≠0 by unfold Bm.Ov.c Bm.Ov.kl Bm.Ov.vl;rw[hc];simp))
      clear hc
      go_wp2
      go_ret
      exact⟨kJ HB.out.symm,au⟩
    ·have hkn:k=n:=by omega
     have HB:Hid (Bm.first l=0):=hide (Bm.rG (fun q hq=>HT.out q (by rw[List.take_of_length_le (by have:=HN.out;omega)];exact hq)))
     have hlt':¬(k:Int)<n:=by omega
     go_wp2
     go_ret
     exact⟨kJ HB.out.symm,aG⟩
theorem aez (a b:ByteArray)(w:World)(ha:a.size≤140737488355328)(hb:b.size≤140737488355328):
  Calls Tryz.prog 244 #[.string a,.string b] w fun E w'=>E=.returned (.int .i64 (Bm.com a.data.toList b.data.toList))∧∃m,w'=w.drewN m:=by
 have la:a.data.toList.length=a.size:=(Lib.size_eq a).symm
 have lb:b.data.toList.length=b.size:=(Lib.size_eq b).symm
 go_enter Tryz.func244,Tryz.ntmps244
 go_wp2
 all_goals
  go_loopw [13] (fun i wr=>∃(k:Nat),k≤a.size∧k≤b.size∧i=.int .i64 k∧Hid (a.data.toList.take k=b.data.toList.take k)∧∃m,wr=w.drewN m) (fun i _=>a.size+b.size-(intOf i).toNat)
  case atStart=>exact⟨0,by omega,by omega,rfl,hide rfl,0,rfl⟩
  case round=>
   obtain⟨k,hka,hkb,rfl,HT,m,rfl⟩:=hrel
   by_cases hA:k<a.size
   ·by_cases hB:k<b.size
    ·have hA':(k:Int)<a.size:=by omega
     have hB':(k:Int)<b.size:=by omega
     obtain⟨c,hc⟩:∃c:UInt8,a[k]=c:=⟨_,rfl⟩
     obtain⟨d,hd⟩:∃c:UInt8,b[k]=c:=⟨_,rfl⟩
     have ea:a.data.toList[k]? =some c:=by rw[List.getElem?_eq_getElem (by omega),←hc];rfl
     have eb:b.data.toList[k]? =some d:=by rw[List.getElem?_eq_getElem (by omega),←hd];rfl
     have EA:=hide ea
     have EB:=hide eb
     clear ea eb
     by_cases hcd:c=d
     ·have ht:((c.toNat:Int) !=(d.toNat:Int))=false:=by simp[hcd]
      have HK:Hid (a.data.toList.take (k+1)=b.data.toList.take (k+1)):=hide (by
       have h1:=EA.out
       have h2:=EB.out
       rw[List.take_add_one,List.take_add_one,HT.out,h1,h2,hcd])
      clear hcd
      go_wp2
      go_quiet (fail)
      go_wp2
      go_roundw
      case rel=>exact⟨k+1,by omega,by omega,by go_num,HK,_,rfl⟩
      case measure=>simp[intOf];omega
     ·have ht:((c.toNat:Int) !=(d.toNat:Int))=true:=by
       have:c.toNat≠d.toNat:=fun h=>hcd (UInt8.toNat_inj.1 h)
       simp;omega
      have HK:Hid (Bm.com a.data.toList b.data.toList=k):=hide (Bm.abr _ _ k (by omega) (by omega) HT.out (.inr (.inr (by rw[EA.out,EB.out];simpa using hcd))))
      clear hcd
      go_wp2
      go_quiet (fail)
      go_wp2
      go_ret
      exact⟨kJ (by rw[HK.out]),_,World.drewN_drewN _ _ _⟩
    ·have hB':¬(k:Int)<b.size:=by omega
     have HK:Hid (Bm.com a.data.toList b.data.toList=k):=hide (Bm.abr _ _ k (by omega) (by omega) HT.out (.inr (.inl (by omega))))
     have hkk:k=b.size:=by omega
     have h':¬a.size≤k:=by omega
     try (exfalso;omega)
     try (
      go_wp2
      go_ret
      exact⟨kJ (by rw[HK.out];omega),m,rfl⟩)
   ·have hA':¬(k:Int)<a.size:=by omega
    have HK:Hid (Bm.com a.data.toList b.data.toList=k):=hide (Bm.abr _ _ k (by omega) (by omega) HT.out (.inl (by omega)))
    have hkk:k=a.size:=by omega
    have hB':b.size<a.size∨¬b.size<a.size:=by omega
    try (exfalso;omega)
    try (
     go_wp2
     go_ret
     exact⟨kJ (by rw[HK.out];omega),m,rfl⟩)
theorem uh (a b:ByteArray)(w:World)(ha:a.size≤140737488355328)(hb:b.size≤140737488355328):
  Calls Tryz.prog 244 #[.string a,.string b] w fun E w'=>E=.returned (.int .i64 (Bm.com a.data.toList b.data.toList))∧Below w.heap.size w w':=
 (aez a b w ha hb).mono (by rintro E w' ⟨rfl,m,rfl⟩;exact⟨rfl,below_drewN (Below.refl _ _) m⟩)
set_option maxRecDepth 100000
def bK (e:TypeId) (w w':World):Prop:=∀(g:Nat) (cs:Array Value) (t:TypeId) (fr:Nat×Nat),w.heap[g]? =some (.cells cs t fr)→t≠e→w'.heap[g]? =some (.cells cs t fr)
theorem bK.refl (e:TypeId)(w:World):bK e w w:=fun _ _ _ _ h _=>h
theorem bK.trans {e:TypeId}{w w1 w2:World}(h:bK e w w1)(k:bK e w1 w2):bK e w w2:=fun g cs t fr hg ht=>k g cs t fr (h g cs t fr hg ht) ht
theorem bK.of_below {e:TypeId}{w w':World}(h:Below w.heap.size w w'):bK e w w':=fun g cs t fr hg _=>(h.block g (ax hg)).trans hg
theorem Own.ajm {k:IntKind}{e:TypeId}{base:Nat}{w:World}{v:Value}{zs:List Int}(h:Own k e base w v zs){g:Nat}(hg:v.ownBlock=some g):∃cs,w.heap[g]? =some (.cells cs e (0,0)):=by
 rcases h.2.2 with⟨rfl,_⟩|⟨g',cap,cur,rfl,_,hh,_⟩
 ·simp[Value.ownBlock]at hg
 ·simp[Value.ownBlock]at hg
  subst hg
  exact⟨_,hh⟩
theorem bK.aV {k:IntKind}{e:TypeId}{base:Nat}{w w':World}{v:Value}{zs:List Int}(h:Own k e base w v zs)(hg:w.grownBy w' v.ownBlock):bK e w w':=by
 intro g cs t fr hc ht
 refine(hg.block g (ax hc) fun e1=>?_).trans hc
 obtain⟨cs',h'⟩:=h.ajm e1.symm
 rw[h']at hc
 simp at hc
 exact ht hc.2.1.symm
section
variable {P:Program} {w:World} {ops:Array Oper} {rest:List Oper} {o:Oper} {a:Act} {Q:Exit→Act→World→Prop}
theorem oo (hgd:o.guard=none)(sl x:Operand)(t u:TypeId)
  (ho:o.op=.call {callee:=.builtin .append,args:=#[sl,x],argTypes:=#[t,u]})
  (e:TypeId) (base:Nat) (ht:P.underlying t=some (.slice e)) (hu:P.underlying u=some .string) (hinfo:(P.info? e).map (fun i=>(i.zero,i.size,i.bytes))=some (some (.int .u8 0),1,1))
  (v:Value) (zs:List Int) (hs:a.eval sl=v) (hown:Own .u8 e base w v zs) (s:ByteArray) (hx:a.eval x=.string s)
  (hlen:zs.length+s.size≤140737488355328) (hbase:base≤w.heap.size)
  (h:∀v' w',Own .u8 e base w' v' (zs++Om.ints s.data.toList)→Below base w w'→bK e w w'→wpList P ops Q rest (a.put o.dst v') w'):wpList P ops Q (o::rest) a w:=by
 obtain⟨i,hi,hz,hsize,hb⟩:=info_parts hinfo
 refine Lib.wpList_append_own_string w hgd sl x t u ho base e i ht hu hi hz hsize hb v zs.length _ hs hown.2 s hx (by unfold maxLen;omega) hlen hbase fun v' w' h1 h2 _=>?_
 refine h v' w' ⟨?_,?_⟩ ((Below.refl _ _).grown h2 hbase fun k' hk=>(hown.2.lt k' hk).1) (bK.aV hown h2)
 ·intro z hz
  rcases List.mem_append.1 hz with hz|hz
  ·exact hown.1 z hz
  ·unfold Om.ints at hz
   obtain⟨c,_,rfl⟩:=List.mem_map.1 hz
   have:=c.toNat_lt
   exact wf_u8 (by omega) (by omega)
 ·have e1:zs.length+s.size=(zs++Om.ints s.data.toList).length:=by rw[List.length_append,Om.ja,Lib.size_eq]
  rw[e1]at h1
  simpa[Lib.strCells_eq,Lib.byteCells,Om.ints,List.map_append,Function.comp_def]using h1
end
theorem alC (vb:Value)(bs:List Int)(w:World)(hb:Is .u8 w vb bs)(hl:bs.length≤140737488355328):
  Calls Tryz.prog 234 #[vb] w fun e w'=>∃v,e=.returned v∧Own .u8 5 w.heap.size w' v bs∧Below w.heap.size w w':=by
 have q:∀(w:World) (a:Option Addr) (n c n' c':Nat),(binOp .eql 79 (.slice a n c) (.slice none n' c')).run Tryz.prog w=.ok (.bool a.isNone) w:=fun w a n c n' c'=>Lib.run_eql_slice_nil w _ _ a n c n' c' Tryz.underlying79
 by_cases hn:vb=.slice none 0 0
 ·subst hn
  have:bs=[]:=by
   rcases hb.2 with⟨_,h⟩|⟨ad,cap,h,_⟩
   ·exact h
   ·simp at h
  subst this
  clear hb hl
  go_enter Tryz.func234,Tryz.ntmps234
  go_wp2
  go_ret
  exact⟨_,rfl,Own.nil _ _ _ _,Below.refl _ _⟩
 ·obtain⟨ad,cap,rfl⟩:∃ad cap,vb=.slice (some ad) bs.length cap:=by
   rcases hb.2 with⟨h,_⟩|⟨ad,cap,h,_⟩
   ·exact absurd h hn
   ·exact⟨ad,cap,h⟩
  clear hn
  obtain⟨w1,hw1,aW,aj,aZ⟩:=lC .u8 5 w #[] 0 [] rfl rfl (by simp[maxLen]) (by simp)
  have hb1:=hb.below aj
  go_enter Tryz.func234,Tryz.ntmps234
  go_wp2_with (at_builtin;refine cK rfl (.tmp 5) (.tmp 6) 79 rfl .u8 5 w.heap.size 1 Tryz.underlying79 Tryz.info5 (by decide) _ [] rfl aZ _ bs rfl hb1 (by simp;omega) (by omega) ?_)
  intro v2 w2 aT au _
  go_wp2
  go_ret
  exact⟨_,rfl,aT,aj.trans au⟩
theorem uf (base:Nat)(v:Value)(zs:List Int)(x:Nat)(w:World)(hv:Own .u8 5 base w v zs)(hb:base≤w.heap.size)(hl:zs.length≤140737488355000)(hx:x<128):
  Calls Tryz.prog 235 #[v,.int .i64 x] w fun E w'=>∃v',E=.returned v'∧Own .u8 5 base w' v' (zs++Vm.enc x)∧Below base w w'∧bK 5 w w':=by
 have hz1:(Vm.enc x).length=1:=Vm.iF hx
 go_enter Tryz.func235,Tryz.ntmps235
 go_wp2_with fail
 refine(fJ _ [] x _ (Is.nil _ _) (by simp) (by omega) (by omega)).mono ?_
 rintro E w1 ⟨v1,rfl,aZ,aj⟩
 rw[Int.toNat_natCast,List.nil_append]at aZ
 have hb1:=aj.size
 have hv1:=hv.below aj
 have is1:=aZ.is
 go_wp2_with (at_builtin;refine cK rfl (.tmp 5) (.tmp 8) 79 rfl .u8 5 base 1 Tryz.underlying79 Tryz.info5 (by decide) _ zs rfl hv1 _ (Vm.enc x) rfl is1 (by omega) (by omega) ?_)
 intro v2 w2 aT au il
 go_wp2
 go_ret
 exact⟨_,rfl,aT,(aj.mono hb).trans au,(bK.of_below aj).trans (bK.aV hv1 il)⟩
theorem adl (k:ByteArray)(n:Nat):List.take (k.size-n) (List.drop n k.data.toList)=List.drop n k.data.toList:=by
 rw[List.take_of_length_le]
 rw[List.length_drop,←Lib.size_eq]
 exact Nat.le_refl _
theorem ae9 (base:Nat)(v:Value)(zs:List Int)(k:ByteArray)(n:Nat)(w:World)(hv:Own .u8 5 base w v zs)(hb:base≤w.heap.size)(hl:zs.length≤140737488354000)(hk:k.size≤64)(hn:n≤k.size):
  Calls Tryz.prog 245 #[v,.string k,.int .i64 n] w fun E w'=>∃v',E=.returned v'∧Own .u8 5 base w' v' (zs++(Vm.enc n++(Vm.enc (k.size-n)++Om.ints (k.data.toList.drop n))))∧Below base w w'∧bK 5 w w':=by
 have hz1:(Vm.enc n).length=1:=Vm.iF (by omega)
 have hz2:(Vm.enc (k.size-n)).length=1:=Vm.iF (by omega)
 have hsub:(k.size:Int)-n=((k.size-n:Nat):Int):=by omega
 have hdt:=adl k n
 go_enter Tryz.func245,Tryz.ntmps245
 go_wp2_with fail
 refine(uf base v zs n _ hv hb (by omega) (by omega)).mono ?_
 rintro E w1 ⟨v1,rfl,aZ,aj,kp1⟩
 have hb1:=aj.size
 go_wp2_with fail
 refine(uf base v1 _ (k.size-n) _ aZ (by omega) (by simp;omega) (by omega)).mono ?_
 rintro E w2 ⟨v2,rfl,aT,au,kp2⟩
 have hb2:=au.size
 have hl2:(zs++Vm.enc n++Vm.enc (k.size-n)).length≤140737488354100:=by rw[List.length_append,List.length_append];omega
 go_wp2_with (at_builtin;refine oo rfl (.tmp 16) (.tmp 19) 79 9 rfl 5 base Tryz.underlying79 Tryz.underlying9 Tryz.info5 _ _ rfl aT _ rfl ?q1 (by omega) ?_)
 case q1=>simp;simp at hl2;omega
 intro v3 w3 bI aF kp3
 go_wp2
 go_ret
 exact⟨_,rfl,bI,(aj.trans au).trans aF,(kp1.trans kp2).trans kp3⟩
theorem Tryz.acx:∀args w,(callFunc 245 args).run Tryz.prog w=.ok (.enter 245 args) w:=enters_of Tryz.func245 (by kernel_rfl) rfl
theorem wh {P:Program}{ops:Array Oper}{o:Oper}{a:Act}{w:World}{K:Act→World→Prop}{Q:Exit→Act→World→Prop}{E:Prop}(hgd:o.guard=none)(f:FuncId)(args:Array Operand)(ts:Array TypeId)
  (ho:o.op=.call {callee:=.value (.func f),args:=args,argTypes:=ts}) (hent:∀args w,(callFunc f args).run P w=.ok (.enter f args) w) (vs:Array Value) (hvs:args.map a.eval=vs)
  {R:Value→World→Prop} (hc:Calls P f vs w fun e w'=>∃v,e=.returned v∧R v w') (h:∀v w',R v w'→K (a.put o.dst v) w'):
  if Region.wanted o (yielded ops a.tmps)=true then Oper.wp P o a w K Q else E:=by
 have hw:Region.wanted o (yielded ops a.tmps)=true:=by simp[Region.wanted,hgd]
 rw[if_pos hw]
 unfold Oper.wp
 simp only[execOp,ho,resolve,invoke,Sem.run_bind,hvs]
 simp only[Act.eval,Deferred.ofValue,Sem.run_pure,Result.andThen_ok,Array.empty_append,hent]
 rw[Oper.upon_enter]
 refine hc.mono ?_
 rintro e w' ⟨v,rfl,hr⟩
 exact h v w' hr
theorem apg {ah:List UInt8}{k u:ByteArray}{n:Nat}(hn:Bm.com ah k.data.toList=n):Bm.fO ah ⟨false,k,u⟩=[0]++(Vm.enc n++(Vm.enc (k.size-n)++Om.ints (k.data.toList.drop n))):=by
 unfold Bm.fO Bm.mE Bm.Ov.bit Bm.Ov.kl
 simp only[hn,List.length_drop,←Lib.size_eq]
 rw[if_neg (by simp),if_neg (by simp),Vm.mr (by omega)]
 simp
theorem aps {ah:List UInt8}{k u:ByteArray}{n:Nat}(hn:Bm.com ah k.data.toList=n):Bm.fO ah ⟨true,k,u⟩=[1]++(Vm.enc n++(Vm.enc (k.size-n)++Om.ints (k.data.toList.drop n)))++Vm.enc u.size++Om.ints u.data.toList:=by
 unfold Bm.fO Bm.mE Bm.Ov.bit Bm.Ov.kl Bm.Ov.vl Om.cnt
 simp only[hn,List.length_drop,←Lib.size_eq]
 rw[if_pos trivial,if_pos trivial,Vm.mr (by omega)]
 simp
theorem ang (base:Nat)(v:Value)(zs:List Int)(o:Bm.Ov)(ah:ByteArray)(w:World)(hv:Own .u8 5 base w v zs)(hb:base≤w.heap.size)(hl:zs.length≤140737488353000)(hah:ah.size≤64)(hc:o.c=0):
  Calls Tryz.prog 236 #[v,xG o.p o.k o.v,.string ah] w fun E w'=>∃v',E=.returned v'∧Own .u8 5 base w' v' (zs++Bm.fO ah.data.toList o)∧Below base w w'∧bK 5 w w':=by
 obtain⟨p,k,u⟩:=o
 have hh:=Om.iJ hc
 have hcl:=Bm.xL ah.data.toList k.data.toList
 simp only[Bm.Ov.kl,Bm.Ov.vl,←Lib.size_eq]at hh hcl
 clear hc
 unfold xG
 simp only
 obtain⟨n,hn⟩:∃n,Bm.com ah.data.toList k.data.toList=n:=⟨_,rfl⟩
 rw[hn]at hcl
 have hnk:=hcl.2.1
 have hk16:=hh.2.1
 have hu32:=hh.2.2.1
 have hz1:(Vm.enc n).length=1:=Vm.iF (by omega)
 have hz2:(Vm.enc (k.size-n)).length=1:=Vm.iF (by omega)
 have hz3:(Vm.enc u.size).length=1:=Vm.iF (by omega)
 have hz4:(Om.ints (k.data.toList.drop n)).length≤16:=by rw[Om.ja,List.length_drop,←Lib.size_eq];omega
 obtain⟨w0,hw0,qo,dB,aeL⟩:=ak w #[.bool p,.string k,.string u] 92
 have c0:=ai aeL 0 rfl
 have c1:=ai aeL 1 rfl
 have c2:=ai aeL 2 rfl
 have HN:=hide hn
 have HB:=hide aeL
 clear hn hh aeL hcl
 cases p
 ·rw[apg HN.out]
  go_enter Tryz.func236,Tryz.ntmps236
  go_wp2_with fail
  refine(uh ah k _ (by omega) (by omega)).mono ?_
  rintro E w1 ⟨rfl,aj⟩
  rw[HN.out]
  have aW:=aj.size
  have d0:=(aj.cell (p:=⟨w.heap.size,0,none⟩) (by simp[qo])).trans c0
  have d1:=(aj.cell (p:=⟨w.heap.size,1,none⟩) (by simp[qo])).trans c1
  have B1:=hide ((aj.block w.heap.size (by omega)).trans HB.out)
  have uK:Below w.heap.size w w1:=dB.trans (aj.mono dB.size)
  have hv1:=hv.below uK
  clear c0 c1 c2 HB dB aj hw0
  obtain⟨w2,hw2,di,au,aT⟩:=lC .u8 5 w1 #[.int .u8 0] 1 [0] rfl rfl (by simp[maxLen]) (by simp[wf_u8])
  have e0:=(au.cell (p:=⟨w.heap.size,0,none⟩) (by simp;omega)).trans d0
  have e1:=(au.cell (p:=⟨w.heap.size,1,none⟩) (by simp;omega)).trans d1
  have B2:=hide ((au.block w.heap.size (by omega)).trans B1.out)
  have i1:=fun m=>(hv1.below au).drewN m
  have i2:=fun m=>aT.is.drewN m
  have HZ:=hide hl
  go_wp2_with fail
  go_region_law (first
   |(refine sI rfl (.tmp 15) (.tmp 16) 79 rfl .u8 5 base 1 Tryz.underlying79 Tryz.info5 (by decide) _ zs (by simp[Act.eval]) (i1 1) _ [0] (by simp[Act.eval]) (i2 1) (by simp;omega) (by simp;omega) ?_;intro v3 w3 bI aF zk;have B3:=bK.aV (i1 1) zk _ _ _ _ B2.out (by decide);have f0:=ai B3 0 rfl;have f1:=ai B3 1 rfl;have f2:=ai B3 2 rfl;replace B3:=hide B3)
   |(refine wh rfl 245 #[.tmp 17,.tmp 19,.tmp 20] #[79,9,3] rfl Tryz.acx #[v3,.string k,.int .i64 n] (by simp[Act.eval]) ((ae9 base v3 _ k n _ bI (by have:=aF.size;simp at this;omega) (by simp;omega) (by omega) hnk).mono (by rintro E w' ⟨v',rfl,h⟩;exact⟨v',rfl,h⟩)) ?_;rintro v4 w4 ⟨bf,aM,qW⟩))
  all_goals
   have bn:Below base w w4:=(((uK.mono hb).trans (au.mono (by omega))).trans ((Below.refl _ _).drew.trans aF)).trans aM
   have kp5:bK 5 w w4:=((((bK.of_below uK).trans (bK.of_below au)).trans (bK.of_below (below_drewN (Below.refl w2.heap.size w2) 1))).trans (bK.aV (i1 1) zk)).trans qW
   have dA:Own .u8 5 base w4 v4 (zs++0::(Vm.enc n++(Vm.enc (k.size-n)++Om.ints (List.drop n k.data.toList)))):=by simpa using bf
   clear i1 i2 bf bI zk aF aM qW f0 f1 f2 e0 e1 d0 d1 B1 B2 B3
   go_wp2
   go_ret
   exact⟨_,rfl,dA,bn,kp5⟩
 ·rw[aps HN.out]
  go_enter Tryz.func236,Tryz.ntmps236
  go_wp2_with fail
  refine(uh ah k _ (by omega) (by omega)).mono ?_
  rintro E w1 ⟨rfl,aj⟩
  rw[HN.out]
  have aW:=aj.size
  have d0:=(aj.cell (p:=⟨w.heap.size,0,none⟩) (by simp[qo])).trans c0
  have d1:=(aj.cell (p:=⟨w.heap.size,1,none⟩) (by simp[qo])).trans c1
  have B1:=hide ((aj.block w.heap.size (by omega)).trans HB.out)
  have uK:Below w.heap.size w w1:=dB.trans (aj.mono dB.size)
  have hv1:=hv.below uK
  clear c0 c1 c2 HB dB aj hw0
  obtain⟨w2,hw2,di,au,aT⟩:=lC .u8 5 w1 #[.int .u8 1] 1 [1] rfl rfl (by simp[maxLen]) (by simp[wf_u8])
  have e0:=(au.cell (p:=⟨w.heap.size,0,none⟩) (by simp;omega)).trans d0
  have e1:=(au.cell (p:=⟨w.heap.size,1,none⟩) (by simp;omega)).trans d1
  have B2:=hide ((au.block w.heap.size (by omega)).trans B1.out)
  have i1:=fun m=>(hv1.below au).drewN m
  have i2:=fun m=>aT.is.drewN m
  have HZ:=hide hl
  go_wp2_with fail
  go_region_law (first
   |(refine sI rfl (.tmp 22) (.tmp 23) 79 rfl .u8 5 base 1 Tryz.underlying79 Tryz.info5 (by decide) _ zs (by simp[Act.eval]) (i1 1) _ [1] (by simp[Act.eval]) (i2 1) (by simp;omega) (by simp;omega) ?_;intro v3 w3 bI aF zk;have B3:=bK.aV (i1 1) zk _ _ _ _ B2.out (by decide);have f0:=ai B3 0 rfl;have f1:=ai B3 1 rfl;have f2:=ai B3 2 rfl;replace B3:=hide B3)
   |(refine wh rfl 245 #[.tmp 24,.tmp 26,.tmp 27] #[79,9,3] rfl Tryz.acx #[v3,.string k,.int .i64 n] (by simp[Act.eval]) ((ae9 base v3 _ k n _ bI (by have:=aF.size;simp at this;omega) (by simp;omega) (by omega) hnk).mono (by rintro E w' ⟨v',rfl,h⟩;exact⟨v',rfl,h⟩)) ?_;rintro v4 w4 ⟨bf,aM,qW⟩))
  all_goals
   have bn:Below base w w4:=(((uK.mono hb).trans (au.mono (by omega))).trans ((Below.refl _ _).drew.trans aF)).trans aM
   have kp5:bK 5 w w4:=((((bK.of_below uK).trans (bK.of_below au)).trans (bK.of_below (below_drewN (Below.refl w2.heap.size w2) 1))).trans (bK.aV (i1 1) zk)).trans qW
   have B4:=qW _ _ _ _ B3.out (by decide)
   have g2:=ai B4 2 rfl
   have lT:=bn.size
   replace B4:=hide B4
   have hl5:(zs++[1]++(Vm.enc n++(Vm.enc (k.size-n)++Om.ints (List.drop n k.data.toList)))).length≤140737488353100:=by simp only[List.length_append,List.length_cons,List.length_nil];omega
   generalize hz5:zs++[1]++(Vm.enc n++(Vm.enc (k.size-n)++Om.ints (List.drop n k.data.toList)))=z5 at*
   have HZ5:=hide hz5
   clear hz5 i1 i2 bI zk aF aM qW f0 f1 f2 e0 e1 d0 d1 B1 B2 B3
   go_wp2_with fail
   refine(uf base v4 z5 u.size _ bf (by omega) (by omega) (by omega)).mono ?_
   rintro E w6 ⟨v6,rfl,fZ,eZ,kp6⟩
   have lV:=eZ.size
   have g3:=ai (kp6 _ _ _ _ B4.out (by decide)) 2 rfl
   go_wp2_with (at_builtin;refine oo rfl (.tmp 34) (.tmp 36) 79 9 rfl 5 base Tryz.underlying79 Tryz.underlying9 Tryz.info5 _ _ rfl fZ u rfl ?q1 (by omega) ?_)
   case q1=>simp only[List.length_append];omega
   intro v7 w7 jV jc kp7
   have oL:Own .u8 5 base w7 v7 (zs++([1]++(Vm.enc n++(Vm.enc (k.size-n)++Om.ints (List.drop n k.data.toList)))++Vm.enc u.size++Om.ints u.data.toList)):=by
    rw[←HZ5.out]at jV
    simpa using jV
   clear jV fZ bf
   go_wp2
   go_ret
   exact⟨_,rfl,by simpa using oL,(bn.trans eZ).trans jc,(kp5.trans kp6).trans kp7⟩
theorem afh {l:List Bm.Ov}{k:Nat}{o:Bm.Ov}(ho:l[k]? =some o):l.take (k+1)=l.take k++[o]:=by
 obtain⟨hk,rfl⟩:=List.getElem?_eq_some_iff.1 ho
 exact List.take_succ_eq_append_getElem hk
theorem aj6 {l:List Bm.Ov}{k:Nat}{o:Bm.Ov}(ho:l[k]? =some o):Bm.eu [] (l.take (k+1))=Bm.eu [] (l.take k)++Bm.fO (Bm.ay [] (l.take k)) o:=by
 rw[afh ho,Bm.rC]
theorem aiG {l:List Bm.Ov}(hc:Bm.dY l=0)(k:Nat):(Bm.eu [] (l.take k)).length≤420:=by
 obtain⟨h1,h2,h3⟩:=Bm.dI hc
 have h4:∀o∈l.take k,Bm.Ov.c o=0:=fun o ho=>h3 o (List.mem_of_mem_take ho)
 have:=Bm.ab3 [] (l.take k) h4
 have:=Bm.af8 h4
 have:(l.take k).length≤8:=by rw[List.length_take];omega
 omega
theorem apf (vb:Value)(bs:List Int)(vl:Value)(l:List Bm.Ov)(w:World)(hb:Is .u8 w vb bs)(hl:bs.length≤140737488351700)(h:df w vl l)(hf:iR l)(hll:l.length≤140737488355328):
  Calls Tryz.prog 215 #[vb,vl] w fun E w'=>∃v',E=.returned (.tuple #[v',.int .i64 (Bm.dY l)])∧Own .u8 5 w.heap.size w' v' (Bm.afZ bs l)∧Below w.heap.size w w':=by
 by_cases hc:Bm.dY l=0
 ·rw[hc,Bm.ahp hc]
  obtain⟨h1,h8,h3⟩:=Bm.dI hc
  obtain⟨b1,o1,c1,rfl,_,_,hB,hcell⟩:=h.full (by omega)
  have HC:=hide hc
  have HL:=hide hcell
  have H3:=hide h3
  have HE:=hide (aiG hc)
  have hz1:(Vm.enc l.length).length=1:=Vm.iF (by omega)
  have hlen:(l.length:Int)≤8:=by omega
  clear hc hcell h3
  go_enter Tryz.func215,Tryz.ntmps215
  go_wp2_with fail
  refine(mG _ l _ h hf hll).mono ?_
  rintro E w1 ⟨rfl,aj⟩
  rw[HC.out]
  have aW:=aj.size
  have hb1:=hb.below aj
  go_wp2_with fail
  refine(alC _ bs _ hb1 (by omega)).mono ?_
  rintro E w2 ⟨v2,rfl,aT,au⟩
  have di:=au.size
  replace aT:=aT.bB aW
  go_wp2_with fail
  refine(uf w.heap.size v2 bs l.length _ aT (by omega) (by omega) (by omega)).mono ?_
  rintro E w3 ⟨v3,rfl,bI,aF,_⟩
  have bP:=aF.size
  have bg:Below w.heap.size w w3:=(aj.trans (au.mono aW)).trans aF
  clear aT aj au aF hb1
  go_wp2
  go_loopw [7,8,24] (fun ov av i wr=>∃(k:Nat) (ah:ByteArray),k≤l.length∧i=.int .i64 k∧av=.string ah∧Hid (ah.data.toList=Bm.ay [] (l.take k))∧ah.size≤64∧Own .u8 5 w.heap.size wr ov (bs++Vm.enc l.length++Bm.eu [] (l.take k))∧Below w.heap.size w wr) (fun _ _ i _=>l.length-(intOf i).toNat)
  case atStart=>exact⟨0,⟨#[]⟩,by omega,rfl,rfl,hide rfl,by simp[ByteArray.size],by simpa[Bm.eu]using bI,bg⟩
  case round=>
   obtain⟨k,ah,hk,rfl,rfl,HA,hah,own,aG⟩:=hrel
   have sz:=aG.size
   by_cases hlt:k<l.length
   ·obtain⟨o,ho⟩:∃o,l[k]? =some o:=⟨l[k],by rw[List.getElem?_eq_getElem]⟩
    obtain⟨c0,c1,c2⟩:=HL.out k o ho
    have d0:=(aG.cell (p:=⟨b1,o1+k*3,none⟩) hB).trans c0
    have d1:=(aG.cell (p:=⟨b1,o1+k*3+1,none⟩) hB).trans c1
    have d2:=(aG.cell (p:=⟨b1,o1+k*3+2,none⟩) hB).trans c2
    have HO:=hide ho
    have hoc:=H3.out o (List.mem_of_getElem? ho)
    have oM:o.k.size≤64:=by have:=(Om.iJ hoc).2.1;simp only[Bm.Ov.kl,←Lib.size_eq]at this;omega
    have hel:=HE.out k
    have e5:bs++Vm.enc l.length++Bm.eu [] (l.take k)++Bm.fO ah.data.toList o=bs++Vm.enc l.length++Bm.eu [] (l.take (k+1)):=by rw[aj6 ho,HA.out,←List.append_assoc]
    have HA2:Hid (o.k.data.toList=Bm.ay [] (l.take (k+1))):=hide (by rw[afh ho,Bm.j6];rfl)
    have hlz:(bs++Vm.enc l.length++Bm.eu [] (l.take k)).length≤140737488353000:=by simp only[List.length_append];omega
    generalize bs++Vm.enc l.length++Bm.eu [] (l.take k)=zs at*
    have E5:=hide e5
    clear c0 c1 c2 ho e5
    have hlt':(k:Int)<l.length:=by omega
    obtain⟨w4,hw4,lT,aM,afy⟩:=ak wr #[.bool o.p,.string o.k,.string o.v] 92
    have f0:=ai afy 0 rfl
    have f1:=ai afy 1 rfl
    have f2:=ai afy 2 rfl
    have B4:=hide afy
    clear afy
    go_wp2_with fail
    refine(ang w.heap.size _ zs o ah _ (own.below aM) (by omega) (by omega) hah hoc).mono ?_
    rintro E w5 ⟨v5,rfl,dA,bn,kp5⟩
    rw[E5.out]at dA
    have B5:=kp5 _ _ _ _ B4.out (by decide)
    have g1:=ai B5 1 rfl
    have eZ:Below w.heap.size w w5:=(aG.trans (aM.mono sz)).trans bn
    clear own aM bn kp5 B5 d0 d1 d2 f0 f1 f2 hel hlz
    go_wp2
    go_roundw
    case rel=>exact⟨k+1,o.k,by omega,by go_num,rfl,HA2,oM,dA,eZ⟩
    case measure=>simp[intOf];omega
   ·have hlt':¬(k:Int)<l.length:=by omega
    rw[List.take_of_length_le (by omega),List.append_assoc]at own
    go_wp2
    go_ret2
    exact⟨_,rfl,own,aG⟩
 ·rw[Bm.ar9 hc]
  obtain⟨c,hcc⟩:∃c,Bm.dY l=c:=⟨_,rfl⟩
  have h0:(c !=0)=true:=by rw[←hcc];simpa using hc
  obtain⟨ao,cp,rfl,_,_⟩:=hb.shape
  rw[hcc]
  have HC:=hide hcc
  clear hc hcc
  go_enter Tryz.func215,Tryz.ntmps215
  go_wp2_with fail
  refine(mG _ l _ h hf hll).mono ?_
  rintro E w1 ⟨rfl,aj⟩
  rw[HC.out]
  go_wp2
  go_ret2
  exact⟨_,rfl,Own.nil _ _ _ _,aj⟩
theorem bz.aa5 {e base g:Nat}{w w':World}{v:Value}{l:List Bm.Ov}(h:bz e base w v l)(hg:w.grownBy w' (some g))(hb:g<base):bz e base w' v l:=by
 refine h.kept hg ?_
 cases hv:v.ownBlock with
 |none=>exact .inl rfl
 |some b=>
  refine .inr fun e=>?_
  have:=h.block b hv
  simp at e
  omega
structure Cw where
 e:Int
 n:Int
 v:Value
 l:List Bm.Ov
def Cw.c (c:Cw):Cm.Cv:=⟨c.e,c.n,c.l⟩
def az (r:List Cw):List Cm.Cv:=r.map Cw.c
def bT (e n:Int) (v:Value):Value:=.agg #[.int .i64 e,.int .i64 n,v]
def iG (c:Cw):List Value:=[.int .i64 c.e,.int .i64 c.n,c.v]
def ccells:List Cw→List Value
 |[]=>[]
 |c::r=>iG c++ccells r
theorem pM:∀(l:List Cw),(ccells l).length=l.length*3
 |[]=>rfl
 |o::r=>by
  have:=pM r
  simp only[ccells,iG,List.length_append,List.length_cons,List.length_nil]
  omega
theorem uU:∀(l m:List Cw),ccells (l++m)=ccells l++ccells m
 |[],_=>rfl
 |o::l,m=>by simp only[List.cons_append,ccells,uU l m,List.append_assoc]
theorem nJ:∀(l:List Cw),(∀c∈l,c.v.oneCell'=true)→∀u∈ccells l,u.oneCell'=true
 |[],_,u,h=>by simp[ccells]at h
 |o::r,hv,u,h=>by
  rcases List.mem_append.1 h with h|h
  ·simp only[iG,List.mem_cons,List.not_mem_nil,or_false]at h
   rcases h with rfl|rfl|rfl
   ·rfl
   ·rfl
   ·exact hv o (List.mem_cons_self ..)
  ·exact nJ r (fun c hc=>hv c (List.mem_cons_of_mem _ hc)) u h
theorem qO:∀(l:List Cw) (i:Nat) (hi:i<l.length),(ccells l)[i*3]? =some (.int .i64 l[i].e)∧(ccells l)[i*3+1]? =some (.int .i64 l[i].n)∧(ccells l)[i*3+2]? =some l[i].v
 |[],_,hi=>by simp at hi
 |o::r,0,hi=>by simp[ccells,iG]
 |o::r,i+1,hi=>by
  have:=qO r i (by simpa using hi)
  simp only[ccells,iG]
  rw[show(i+1)*3=i*3+3 by omega]
  simpa[List.getElem?_append]using this
theorem rJ:∀(l:List Cw) (p:Nat),ccells (l.take p)=(ccells l).take (p*3)
 |[],p=>by simp[ccells]
 |o::l,0=>by simp[ccells]
 |o::l,p+1=>by
  rw[List.take_succ_cons,show(p+1)*3=p*3+3 by omega]
  simp[ccells,iG,rJ l p]
theorem zy:∀(l:List Cw) (p:Nat),ccells (l.drop p)=(ccells l).drop (p*3)
 |[],p=>by simp[ccells]
 |o::l,0=>by simp[ccells]
 |o::l,p+1=>by
  rw[List.drop_succ_cons,show(p+1)*3=p*3+3 by omega]
  simp[ccells,iG,zy l p]
theorem df.one {w:World}{v:Value}{l:List Bm.Ov}(h:df w v l):v.oneCell'=true:=by
 obtain⟨ao,cap,rfl,_⟩:=h.shape
 rfl
def In64 (x:Int):Prop:=-9223372036854775808≤x∧x<9223372036854775808
def InC (w:World) (r:List Cw):Prop:=∀c∈r,df w c.v c.l∧In64 c.e∧In64 c.n
def dV (r:List Cw):Prop:=∀c∈r,iR c.l∧c.l.length*40≤140737488351232
theorem InC.below {w w':World}{r:List Cw}(h:InC w r)(hb:Below w.heap.size w w'):InC w' r:=fun c hc=>⟨(h c hc).1.below hb,(h c hc).2⟩
def eX (w:World) (v:Value) (r:List Cw):Prop:=
 (v=.slice none 0 0∧r=[])∨∃ad cap,v=.slice (some ad) r.length cap∧r.length≤cap∧cap≤maxLen∧∀j u,(ccells r)[j]? =some u→w.cell? (ad.add j)=some u
def dJ (w:World) (v:Value) (r:List Cw):Prop:=eX w v r∧InC w r
def bD (e:TypeId) (base:Nat) (w:World) (v:Value) (r:List Cw):Prop:=w.ownsRow base e 3 v r.length (ccells r)
theorem eX.nil (w:World):eX w (.slice none 0 0) []:=.inl ⟨rfl,rfl⟩
theorem dJ.nil (w:World):dJ w (.slice none 0 0) []:=⟨eX.nil w,fun c hc=>by simp at hc⟩
theorem bD.nil (e:TypeId)(base:Nat)(w:World):bD e base w (.slice none 0 0) []:=World.ownsRow_nil _ _ _ _
theorem eX.below {w w':World}{v:Value}{l:List Cw}(h:eX w v l)(hb:Below w.heap.size w w'):eX w' v l:=by
 rcases h with h|⟨ad,cap,hv,h1,h2,hc⟩
 ·exact .inl h
 ·refine .inr ⟨ad,cap,hv,h1,h2,fun j u hj=>?_⟩
  have:=hc j u hj
  rw[hb.cell (World.block_lt_of_cell? _ _ this)]
  exact this
theorem dJ.below {w w':World}{v:Value}{l:List Cw}(h:dJ w v l)(hb:Below w.heap.size w w'):dJ w' v l:=⟨h.1.below hb,h.2.below hb⟩
theorem eX.shape {w:World}{v:Value}{l:List Cw}(h:eX w v l):∃ao cap,v=.slice ao l.length cap∧l.length≤cap∧cap≤maxLen:=by
 rcases h with⟨hv,e⟩|⟨ad,cap,hv,h1,h2,_⟩
 ·subst e;exact⟨none,0,hv,by simp,by simp⟩
 ·exact⟨some ad,cap,hv,h1,h2⟩
theorem eX.full {w:World}{v:Value}{l:List Cw}(h:eX w v l)(hne:0<l.length):
  ∃b off cap,v=.slice (some ⟨b,off,none⟩) l.length cap∧l.length≤cap∧cap≤maxLen∧b<w.heap.size∧
   ∀i c,l[i]? =some c→w.cell? ⟨b,off+i*3,none⟩=some (.int .i64 c.e)∧w.cell? ⟨b,off+i*3+1,none⟩=some (.int .i64 c.n)∧w.cell? ⟨b,off+i*3+2,none⟩=some c.v:=by
 rcases h with⟨_,h⟩|⟨⟨b,off,spot⟩,cap,hv,h1,h2,hc⟩
 ·subst h;simp at hne
 ·have h0:=hc 0 _ (qO l 0 hne).1
  have hspot:spot=none:=by simpa[Addr.add]using World.cell?_spot h0
  subst hspot
  refine⟨b,off,cap,hv,h1,h2,World.block_lt_of_cell? _ _ h0,fun i o kU=>?_⟩
  obtain⟨hi,rfl⟩:=List.getElem?_eq_some_iff.1 kU
  obtain⟨g1,g2,g3⟩:=qO l i hi
  have k1:=hc _ _ g1
  have k2:=hc _ _ g2
  have k3:=hc _ _ g3
  rw[gB]at k1 k2 k3
  exact⟨k1,by rw[Nat.add_assoc];exact k2,by rw[Nat.add_assoc];exact k3⟩
theorem bD.row {e base:Nat}{w:World}{v:Value}{l:List Cw}(h:bD e base w v l):eX w v l:=by
 rcases h.2 with⟨hv,hn⟩|⟨g,cap,cur,hv,h1,hh,hc,hm,hs,ht⟩
 ·exact .inl ⟨hv,List.eq_nil_of_length_eq_zero hn⟩
 ·refine .inr ⟨⟨g,0,none⟩,cap,hv,hc,hm,fun j u hj=>?_⟩
  exact h.cells (by rw[hv];rfl) j u hj
theorem akS {e base size n:Nat}{w w':World}{v:Value}{xs:List Value}(h:w.ownsRow base e size v n xs)(hb:Below w.heap.size w w'):w'.ownsRow base e size v n xs:=by
 refine⟨h.1,?_⟩
 rcases h.2 with h|⟨g,cap,cur,hv,h1,hh,r⟩
 ·exact .inl h
 ·refine .inr ⟨g,cap,cur,hv,h1,?_,r⟩
  rw[hb.block g (Array.getElem?_eq_some_iff.1 hh).1]
  exact hh
theorem bD.below {e base:Nat}{w w':World}{v:Value}{l:List Cw}(h:bD e base w v l)(hb:Below w.heap.size w w'):bD e base w' v l:=akS h hb
theorem kC (e:TypeId)(w:World)(cs:Array Value)(n:Nat)(l:List Cw)(hn:l.length=n)(h:cs.toList=ccells l)(hm:n≤maxLen):
  ∃W,w.alloc (.cells cs e)=W∧W.heap.size=w.heap.size+1∧Below w.heap.size w W∧bD e w.heap.size W (.slice (some ⟨w.heap.size,0,none⟩) n n) l:=by
 subst hn
 refine⟨_,rfl,by simp,(Below.refl _ _).alloc (Nat.le_refl _) _,?_⟩
 have ho:=World.ownsRow_lit (base:=w.heap.size) (e:=e) (size:=3) w cs l.length (Nat.le_refl _) hm (by have:=congrArg List.length h;rw[pM]at this;simpa using this)
 rw[h]at ho
 exact ho
theorem bK.wU {e base size n:Nat}{w w':World}{v:Value}{xs:List Value}(h:w.ownsRow base e size v n xs)(hg:w.grownBy w' v.ownBlock):bK e w w':=by
 intro g cs t fr hc ht
 refine(hg.block g (ax hc) fun e1=>?_).trans hc
 rcases h.2 with⟨rfl,_⟩|⟨g',cap,cur,rfl,_,hh,_⟩
 ·simp[Value.ownBlock]at e1
 ·simp[Value.ownBlock]at e1
  subst e1
  rw[hh]at hc
  simp at hc
  exact ht hc.2.1.symm
theorem bz.iN {e e' base:Nat}{w w':World}{v:Value}{l:List Bm.Ov}(h:bz e base w v l)(k:bK e' w w')(hne:e≠e'):bz e base w' v l:=by
 refine⟨h.1,?_⟩
 rcases h.2 with h|⟨g,cap,cur,hv,h1,hh,r⟩
 ·exact .inl h
 ·exact .inr ⟨g,cap,cur,hv,h1,k _ _ _ _ hh hne,r⟩
section
variable {P:Program} {w:World} {ops:Array Oper} {rest:List Oper} {o:Oper} {a:Act} {Q:Exit→Act→World→Prop}
theorem kr (hgd:o.guard=none)(s x:Operand)(t:TypeId)
  (ho:o.op=.call {callee:=.builtin .append,args:=#[s,x],argTypes:=#[t,t]})
  (e:TypeId) (base:Nat) (ht:P.underlying t=some (.slice e)) (hinfo:(P.info? e).map (fun i=>(i.zero,i.size,i.bytes))=some (some (.agg #[.int .i64 0,.int .i64 0,.slice none 0 0]),3,40))
  (v:Value) (l:List Cw) (hs:a.eval s=v) (hown:bD e base w v l) (vx:Value) (m:List Cw) (hx:a.eval x=vx) (his:eX w vx m) (hone:∀c∈m,c.v.oneCell'=true)
  (hlen:(l.length+m.length)*40≤140737488355328) (hbase:base≤w.heap.size)
  (h:∀v' w',bD e base w' v' (l++m)→Below base w w'→bK e w w'→wpList P ops Q rest (a.put o.dst v') w'):wpList P ops Q (o::rest) a w:=by
 obtain⟨i,hi,hz,hsize,hb⟩:=info_parts hinfo
 have hn:l.length+m.length≤140737488355328:=by omega
 rcases his with⟨hv,hy⟩|⟨ad,cap,hv,h1,h2,hc⟩
 ·subst hy
  refine wpList_append_own_none hgd s x t ho base e i 3 ht hi v l.length _ hs hown (hx.trans hv) (h v w (by simpa using hown) (Below.refl _ _) (bK.refl _ _))
 ·refine wpList_append_own w hgd s x t ho base e i _ 3 40 ht hi hz hsize hb rfl (by decide) v l.length _ hs hown ad m.length cap (ccells m) (hx.trans hv) (pM m) hc (nJ m hone) (by unfold maxLen;omega) hlen hbase ?_
  intro v' w' ho' hg _
  refine h v' w' (by unfold bD;rw[uU,List.length_append];exact ho') ((Below.refl _ _).grown hg hbase fun k' hk=>?_) (bK.wU hown hg)
  exact(World.ownsRow.lt hown k' hk).1
variable {v:Value}
theorem eX.jG {l:List Cw}(h:eX w v l){t:TypeId}(ht:P.underlying t=some (.slice (P.elem t)))(hs:∀wx,(sizeOf (P.elem t)).run P wx=.ok 3 wx)(p:Nat)(hp:p≤l.length):
  ∃vs,(∀wx,(Instr.slice t v none (some (.int .i64 p)) none).run P wx=.ok vs wx)∧eX w vs (l.take p):=by
 obtain⟨ao,cap,rfl,hcap,hm⟩:=h.shape
 refine⟨.slice ao p cap,fun wx=>?_,?_⟩
 ·rw[run_slice_h wx t ao l.length cap ht .i64 _ (by omega) (by omega),hs]
  simp only[Result.andThen,sliced]
  cases ao<;>simp[Addr.add]
 ·cases ao with
  |none=>
   rcases h with⟨hv,e⟩|⟨ad,cap',hv,_⟩
   ·subst e
    simp at hp hv
    subst hp hv
    exact eX.nil _
   ·simp at hv
  |some ad=>
   have hl:(l.take p).length=p:=by rw[List.length_take];omega
   rcases h with⟨hv,_⟩|⟨ad',cap',hv,h1,h2,hc⟩
   ·simp at hv
   ·simp at hv
    obtain⟨rfl,rfl⟩:=hv
    refine .inr ⟨ad,cap,by rw[hl],by omega,h2,fun j u hj=>hc j u ?_⟩
    rw[rJ,List.getElem?_take]at hj
    split at hj
    ·exact hj
    ·simp at hj
theorem eX.gu {l:List Cw}(h:eX w v l){t:TypeId}(ht:P.underlying t=some (.slice (P.elem t)))(hs:∀wx,(sizeOf (P.elem t)).run P wx=.ok 3 wx)(p:Nat)(hp:p<l.length):
  ∃vs,(∀wx,(Instr.slice t v (some (.int .i64 p)) none none).run P wx=.ok vs wx)∧eX w vs (l.drop p):=by
 obtain⟨b,off,cap,rfl,hcap,hm,hB,hcell⟩:=h.full (by omega)
 refine⟨.slice (some ⟨b,off+p*3,none⟩) (l.length-p) (cap-p),fun wx=>?_,?_⟩
 ·rw[run_slice_l wx t _ l.length cap ht .i64 _ (by omega) (by omega),hs]
  have hne:¬cap=p:=by omega
  simp[Result.andThen,sliced,hne,gB]
 ·rcases h with⟨hv,_⟩|⟨ad',cap',hv,h1,h2,hc⟩
  ·simp at hv
  ·simp at hv
   obtain⟨rfl,rfl⟩:=hv
   refine .inr ⟨⟨b,off+p*3,none⟩,cap-p,by simp,by simp;omega,by omega,fun j u hj=>?_⟩
   rw[zy,List.getElem?_drop]at hj
   have:=hc _ _ hj
   rw[gB]at this⊢
   rw[Nat.add_assoc]
   exact this
end
theorem Tryz.nO:(Tryz.prog.info? 65).map (fun i=>(i.zero,i.size,i.bytes))=some (some (.agg #[.int .i64 0,.int .i64 0,.slice none 0 0]),3,40):=by kernel_rfl
theorem Tryz.nM:Tryz.prog.underlying 26=some (.slice (Tryz.prog.elem 26)):=by kernel_rfl
theorem Tryz.nN (wx:World):(sizeOf (Tryz.prog.elem 26)).run Tryz.prog wx=.ok 3 wx:=by kernel_rfl
theorem ah4 (vl:Value)(l:List Bm.Ov)(w:World)(h:df w vl l)(hl:l.length*40≤140737488351232):
  Calls Tryz.prog 104 #[vl] w fun e w'=>∃v,e=.returned v∧bz 92 w.heap.size w' v l∧Below w.heap.size w w':=by
 have q:∀(w:World) (a:Option Addr) (n c n' c':Nat),(binOp .eql 63 (.slice a n c) (.slice none n' c')).run Tryz.prog w=.ok (.bool a.isNone) w:=fun w a n c n' c'=>Lib.run_eql_slice_nil w _ _ a n c n' c' Tryz.underlying63
 by_cases hn:vl=.slice none 0 0
 ·subst hn
  have:l=[]:=by
   rcases h with⟨_,h⟩|⟨ad,cap,h,_⟩
   ·exact h
   ·simp at h
  subst this
  clear h hl
  go_enter Tryz.func104,Tryz.ntmps104
  go_wp2
  go_ret
  exact⟨_,rfl,bz.nil _ _ _,Below.refl _ _⟩
 ·obtain⟨ad,cap,rfl⟩:∃ad cap,vl=.slice (some ad) l.length cap:=by
   rcases h with⟨h,_⟩|⟨ad,cap,h,_⟩
   ·exact absurd h hn
   ·exact⟨ad,cap,h⟩
  clear hn
  obtain⟨w1,hw1,aW,aj,aZ⟩:=zF 92 w #[] 0 [] rfl rfl (by simp[maxLen])
  have h1:=h.below aj
  go_enter Tryz.func104,Tryz.ntmps104
  go_wp2_with (at_builtin;refine pE rfl (.tmp 5) (.tmp 6) 63 rfl 92 w.heap.size Tryz.underlying63 Tryz.aff _ [] rfl aZ _ l rfl h1 (by simp;omega) (by omega) ?_)
  intro v2 w2 aT au _
  go_wp2
  go_ret
  exact⟨_,rfl,by simpa using aT,aj.trans au⟩
theorem sK {V:World}{R:Nat}{t:TypeId}{x y z:Value}(hR:V.heap[R]? =some (.cells #[x,y,z] t (0,0)))(c:Value):
  ∃V',V.setCell ⟨R,2,none⟩ c=V'∧V'.heap[R]? =some (.cells #[x,y,c] t (0,0))∧V.grownBy V' (some R)∧V.cell? ⟨R,2,none⟩=some z∧V.frozen? ⟨R,2,none⟩=false:=
 ⟨_,rfl,aI hR 2 c,aB V ⟨R,2,none⟩ c,ai hR 2 rfl,aC hR 2⟩
theorem oH (e n:Int)(v:Value)(l:List Bm.Ov)(w:World)(h:df w v l)(hl:l.length*40≤140737488351232):
  Calls Tryz.prog 50 #[bT e n v] w fun E w'=>∃v',E=.returned (bT e n v')∧bz 92 w.heap.size w' v' l∧Below w.heap.size w w':=by
 unfold bT
 obtain⟨w1,hw1,aW,aj,hB⟩:=ak w #[.int .i64 e,.int .i64 n,v] 65
 obtain⟨w2,hw2,di,au,hR⟩:=ak w1 #[.int .i64 0,.int .i64 0,.slice none 0 0] 65
 rw[aW]at hR
 have hB2:=(au.block w.heap.size (by omega)).trans hB
 have aO:Below w.heap.size w w2:=aj.trans (au.mono (by omega))
 have h2:=h.below aO
 obtain⟨ao,cap,rfl,_,_⟩:=h.shape
 have c2:=ai hB2 2 rfl
 have HB:=hide hB2
 have HR:=hide hR
 clear hB hB2 hR aj au
 go_enter Tryz.func50,Tryz.ntmps50
 go_wp2_with fail
 refine(ah4 _ l _ h2 hl).mono ?_
 rintro E w3 ⟨v3,rfl,bI,aF⟩
 have bP:=aF.size
 have hB3:=(aF.block w.heap.size (by omega)).trans HB.out
 have bN:=(aF.block (w.heap.size+1) (by omega)).trans HR.out
 have bg:=aO.trans (aF.mono (by omega))
 obtain⟨ah,ch,hvl,_,_⟩:=bI.is.shape
 subst hvl
 obtain⟨X,hX,cX,gX,q2,q3⟩:=sK hB3 (.slice ah l.length ch)
 have szX:=gX.size
 have vF:=(gX.block (w.heap.size+1) (by omega) (by simp)).trans bN
 have auD:=bI.aa5 gX (by omega)
 have aqw:=aD bg gX (Nat.le_refl _) (by omega)
 have d0:=ai cX 0 rfl
 have d1:=ai cX 1 rfl
 have d2:=ai cX 2 rfl
 obtain⟨V',hV',dG,bQ,⟨a0,a1,a2⟩,⟨f0,f1,f2⟩,⟨z0,z1,z2⟩⟩:=dP vF (.int .i64 e) (.int .i64 n) (.slice ah l.length ch)
 have fB:=aD aqw bQ (by omega) (by omega)
 have ahJ:=(auD.aa5 bQ (by omega)).bB (base':=w.heap.size) (by omega)
 clear HB HR hB3 bN cX gX vF dG bQ bI auD bg aqw aF c2
 go_wp2
 refine bodyPost_ret (v:=.agg #[.int .i64 e,.int .i64 n,.slice ah l.length ch]) (by simp[results,Tryz.results50,go_sem,z0,z1,z2]) rfl ?_
 exact⟨_,rfl,ahJ,fB⟩
end Go.Proofs.YtjemlgdkjilnoaaGreatDoor

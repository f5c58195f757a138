/- Texts of one layer, one behind the other. -/
import Derived.Test.YtjemlgdkjilnoaaGreatDoorH3
import Derived.Test.YtjemlgdkjilnoaaGreatDoorH9
import Derived.Test.YtjemlgdkjilnoaaGreatDoorH2
import Derived.Test.YtjemlgdkjilnoaaGreatDoorG2
set_option maxRecDepth 100000
set_option maxHeartbeats 8000000
namespace Go.Proofs.YtjemlgdkjilnoaaGreatDoor
open Go.RowKit
set_option linter.unusedVariables false
def til (o:Bm.Ov):Bm.Ov:=⟨o.p,o.k++⟨#[126]⟩,o.v⟩
structure ayR (m bl base:Nat) (w:World) (vs:Nat→Value) (zs:Nat→List Bm.Ov):Prop where
 cell:∀i,i<m→w.cell? ⟨bl,i,none⟩=some (vs i)
 own:∀i,i<m→bz 92 base w (vs i) (zs i)
 apart:∀i j,i<m→j<m→i≠j→(vs i).ownBlock=none∨(vs i).ownBlock≠(vs j).ownBlock
 table:∀i,i<m→(vs i).ownBlock≠some bl
 lens:∀i,i<m→(zs i).length≤2000
 fit:∀i,i<m→iR (zs i)
def awN (m:Nat) (vs:Nat→Value) (g:Nat):Prop:=∃i,i<m∧(vs i).ownBlock=some g
structure ayQ (m bl base:Nat) (w0 wr:World) (vs us:Nat→Value) (zs:Nat→List Bm.Ov) (k:Nat):Prop where
 cell:∀i,i<m→wr.cell? ⟨bl,i,none⟩=some (vs i)
 was:∀i,i<m→wr.cell? ⟨w0.heap.size,i,none⟩=some (us i)
 new:∀i,i<m→bz 92 (w0.heap.size+1) wr (us i) (zs i)
 done:∀i,i<k→i<m→bz 92 base wr (vs i) ((zs i).map til)
 left:∀i,k≤i→i<m→bz 92 base wr (vs i) (zs i)
 below:Out (awN m vs) w0 wr
def one (v:Value):List Value:=[v]
theorem ace (v:Value):(one v).length=1:=rfl
theorem rq {e e' base size n:Nat}{w w':World}{v:Value}{xs:List Value}(h:w.ownsRow base e size v n xs)(k:bK e' w w')(hne:e≠e'):w'.ownsRow base e size v n xs:=by
 refine⟨h.1,?_⟩
 rcases h.2 with h|⟨g,cap,cur,hv,h1,hh,r⟩
 ·exact .inl h
 ·exact .inr ⟨g,cap,cur,hv,h1,k _ _ _ _ hh hne,r⟩
theorem ai5 (l:List Cw)(i:Nat)(c:Cw)(hi:i<l.length):(((ccells l).set (i*3) (.int .i64 c.e)).set (i*3+1) (.int .i64 c.n)).set (i*3+2) c.v=ccells (l.set i c):=by
 induction l generalizing i with
 |nil=>simp at hi
 |cons d l ih=>
  cases i with
  |zero=>simp[ccells,iG]
  |succ i=>
   have:=ih i (by simpa using hi)
   rw[show(i+1)*3=i*3+3 by omega]
   simp only[ccells,iG,List.set_cons_succ,List.cons_append,List.nil_append]
   rw[←this]
theorem aeb {e base g n cap:Nat}{w:World}{l:List Cw}(h:bD e base w (.slice (some ⟨g,0,none⟩) n cap) l)(hn:l.length=n)(i:Nat)(hi:i<n)(c:Cw):
  ∃W,((w.setCell ⟨g,i*3,none⟩ (.int .i64 c.e)).setCell ⟨g,i*3+1,none⟩ (.int .i64 c.n)).setCell ⟨g,i*3+2,none⟩ c.v=W∧bD e base W (.slice (some ⟨g,0,none⟩) n cap) (l.set i c)∧w.grownBy W (some g):=by
 subst hn
 unfold bD at h
 have s1:=h.stored (i*3) (.int .i64 c.e)
 have s2:=s1.1.stored (i*3+1) (.int .i64 c.n)
 have s3:=s2.1.stored (i*3+2) c.v
 refine⟨_,rfl,?_,aH s1.2 (aH s2.2 s3.2)⟩
 unfold bD
 rw[List.length_set,←ai5 l i c hi]
 exact s3.1
theorem yC {e base g n cap:Nat}{w:World}{l:List Cw}(h:bD e base w (.slice (some ⟨g,0,none⟩) n cap) l)(hn:l.length=n)(i:Nat)(c:Cw)(hc:l[i]? =some c):
  (w.cell? ⟨g,i*3,none⟩=some (.int .i64 c.e)∧w.cell? ⟨g,i*3+1,none⟩=some (.int .i64 c.n)∧w.cell? ⟨g,i*3+2,none⟩=some c.v)∧(w.frozen? ⟨g,i*3,none⟩=false∧w.frozen? ⟨g,i*3+1,none⟩=false∧w.frozen? ⟨g,i*3+2,none⟩=false):=by
 subst hn
 unfold bD at h
 obtain⟨hi,rfl⟩:=List.getElem?_eq_some_iff.1 hc
 obtain⟨a0,a1,a2⟩:=qO l i hi
 exact⟨⟨by rw[h.cellAt (i*3) (by omega)];exact a0,by rw[h.cellAt (i*3+1) (by omega)];exact a1,by rw[h.cellAt (i*3+2) (by omega)];exact a2⟩,h.frozenAt _,h.frozenAt _,h.frozenAt _⟩
structure zz (w wr:World) (g m cap:Nat) (rest:List Cw) (k:Nat) (rk:List Cw):Prop where
 row:bD 65 w.heap.size wr (.slice (some ⟨g,0,none⟩) m cap) rk
 len:rk.length=m
 left:rk.drop k=rest.drop k
 kN:dZ w.heap.size wr (rk.take k)
 is:az rk=az rest
 ap:ApC (rk.take k)
 aG:Below w.heap.size w wr
theorem zz.next {w wr w2 w3:World}{g m cap:Nat}{rest rk:List Cw}{k:Nat}(h:zz w wr g m cap rest k rk){c:Cw}(hc:rest[k]? =some c)(hk:k<m){v':Value}(ho:bz 92 wr.heap.size w2 v' c.l)(hb:Below wr.heap.size wr w2)
  (hr:bD 65 w.heap.size w3 (.slice (some ⟨g,0,none⟩) m cap) (rk.set k ⟨c.e,c.n,v',c.l⟩)) (hg:w2.grownBy w3 (some g)):zz w w3 g m cap rest (k+1) (rk.set k ⟨c.e,c.n,v',c.l⟩):=by
 have hlen:=h.len
 have vL:rk[k]? =some c:=by
  have e1:(rk.drop k)[0]? =(rest.drop k)[0]? :=by rw[h.left]
  rw[List.getElem?_drop,List.getElem?_drop]at e1
  simpa using e1.trans (by simpa using hc)
 have htk:(rk.set k ⟨c.e,c.n,v',c.l⟩).take (k+1)=rk.take k++[⟨c.e,c.n,v',c.l⟩]:=by
  rw[List.take_succ_eq_append_getElem (by rw[List.length_set];omega),List.take_set_of_le (Nat.le_refl _)]
  simp
 have hrow2:bD 65 w.heap.size w2 (.slice (some ⟨g,0,none⟩) m cap) rk:=h.row.below hb
 have kt:bK 65 w2 w3:=bK.wU hrow2 hg
 refine⟨hr,by rw[List.length_set];exact hlen,?_,?_,?_,?_,?_⟩
 ·rw[List.drop_set_of_lt (by omega),←List.drop_drop,h.left,List.drop_drop]
 ·rw[htk]
  exact((h.kN.below hb).iN kt).snoc (c:=⟨c.e,c.n,v',c.l⟩) ((ho.iN kt (by decide)).bB h.aG.size)
 ·rw[←h.is]
  unfold az
  rw[List.map_set]
  apply List.ext_getElem?
  intro i
  rw[List.getElem?_set]
  by_cases hik:k=i
  ·subst hik
   rw[if_pos rfl,if_pos (by rw[List.length_map];omega),List.getElem?_map,vL]
   rfl
  ·rw[if_neg hik]
 ·rw[htk]
  refine aeP (N:=wr.heap.size) h.ap (fun d hd b hb=>((h.kN d hd).block b hb).2) fun b hb=>(bz.block ho b hb).1
 ·have b2:=h.aG.trans (hb.mono h.aG.size)
  refine b2.grown hg b2.size fun i hi=>?_
  have:=(World.ownsRow.lt h.row g rfl).1
  simp only[Option.some.injEq]at hi
  omega
end Go.Proofs.YtjemlgdkjilnoaaGreatDoor

/- Texts of one layer, one behind the other. -/
import Derived.Test.YtpifdeoepppadaaGreatDoorH28
import Derived.Test.YtpifdeoepppadaaGreatDoorH25
import Derived.Test.YtpifdeoepppadaaGreatDoorZRtf
import Derived.Test.YtpifdeoepppadaaGreatDoorH26
import Derived.Test.YtpifdeoepppadaaGreatDoorH2
import Derived.Test.YtpifdeoepppadaaGreatDoorG8
import Derived.Test.YtpifdeoepppadaaGreatDoorG6
import Derived.Test.YtpifdeoepppadaaGreatDoorH24
set_option maxRecDepth 100000
set_option maxHeartbeats 8000000
namespace Go.Proofs.YtpifdeoepppadaaGreatDoor
open Go.RowKit
set_option linter.unusedVariables false
structure mO (w0 w:World) (p q tp tb:Nat) (F:Nat→Prop) (s:Rst.St) (n:Nat):Prop where
 lv:Lv w0 w p q F s
 inn:∃ps,Rst.In (fst 1) s ps []
 has:s.d.has=false
 sz:Rz n s
 tab:Tb tp tb w (Sto.fold (Rst.aZ s))
 len:(Sto.fold (Rst.aZ s)).length≤40*n
 ap:¬F tp∧¬F tb
 new:w0.heap.size≤tb∧w0.heap.size≤tp
section
variable {w0 w w':World} {p q tp tb:Nat} {F:Nat→Prop} {s s':Rst.St} {n:Nat}
theorem mO.below (h:mO w0 w p q tp tb F s n)(hb:Below w.heap.size w w'):mO w0 w' p q tp tb F s n:=
 ⟨h.lv.below hb,h.inn,h.has,h.sz,h.tab.below hb,h.len,h.ap,h.new⟩
theorem mO.next (h:mO w0 w p q tp tb F s n)(k:iA p q F w w' s'):∃F',Lv w0 w' p q F' s'∧Tb tp tb w' (Sto.fold (Rst.aZ s))∧¬F' tp∧¬F' tb:=by
 obtain⟨F',k1,k2,k3⟩:=k
 have hs:=h.lv.aF.size
 have t1:Tb tp tb w' (Sto.fold (Rst.aZ s)):=h.tab.agree (k2.block tp h.tab.plt h.ap.1) (k2.block tb h.tab.blt h.ap.2)
 refine⟨F',⟨k1,fun g hg=>?_,h.lv.aF.trans (k2.below (fun g hg=>(h.lv.new g hg).1) hs)⟩,t1,fun e=>?_,fun e=>?_⟩
 ·rcases k3 g hg with e|e
  ·exact h.lv.new g e
  ·have:=h.lv.st.gB.pos;omega
 ·rcases k3 _ e with e|e
  ·exact h.ap.1 e
  ·have:=h.tab.plt;omega
 ·rcases k3 _ e with e|e
  ·exact h.ap.2 e
  ·have:=h.tab.blt;omega
theorem mO.aR (h:mO w0 w p q tp tb F s n)(hn:n≤400)(u:Int)(hu:In64 u):
  Calls Tryz.prog 12 #[.pointer (some ⟨p,0,none⟩),.int .i64 u] w fun E w'=>(∃e,E=.returned (.int .i64 e))∧∃F' s',mO w0 w' p q tp tb F' s' (n+1):=by
 obtain⟨ps,hi⟩:=h.inn
 refine(qm p _ F w s h.lv.st (dD h.sz (by omega)) ⟨h.sz.2.2,h.lv.n0⟩ u hu).mono ?_
 rintro E w' ⟨rfl,k⟩
 obtain⟨F',l1,t1,a1,a2⟩:=h.next k
 obtain⟨c1,c2,c3⟩:=Rst.ap2 hi h.has u
 have e:=Rst.aaQ hi u
 refine⟨⟨_,rfl⟩,F',_,l1,⟨ps,c1⟩,c2,abZ h.sz u,by rw[e];exact t1,by rw[e];have:=h.len;omega,⟨a1,a2⟩,h.new⟩
theorem mO.add (h:mO w0 w p q tp tb F s n)(hn:n≤400){w5:World}{e m:Int}{v:Value}{l:List Bm.Ov}(hb:Below w.heap.size w w5)(hv:dm w0 v l)(hf:fG l)(h40:l.length≤40)(he:In64 e∧In64 m):
  ∃V,w5.alloc (.cells #[.int .i64 e,.int .i64 m,v] 32)=V∧Below w.heap.size w V∧Hid (Calls Tryz.prog 10 #[.pointer (some ⟨p,0,none⟩),.slice (some ⟨w5.heap.size,0,none⟩) 1 1] V fun E w'=>E=.returned (.int .i64 (Rst.add s [⟨e,m,l⟩]).1)∧Below w0.heap.size w0 w'∧
   ((Rst.add s [⟨e,m,l⟩]).1≠0→∃F' s',mO w0 w' p q tp tb F' s' (n+1))∧
   ((Rst.add s [⟨e,m,l⟩]).1=0→Hid (Calls Tryz.prog 32 #[.pointer (some ⟨tp,0,none⟩),v] w' fun E w''=>E=.returned (.int .i64 0)∧∃F' s',mO w0 w'' p q tp tb F' s' (n+1)))):=by
 obtain⟨ps,hi⟩:=h.inn
 obtain⟨V,hV,fE,bn,iE⟩:=gN 32 w5 #[.int .i64 e,.int .i64 m,v] 1 [⟨e,m,v,l⟩] rfl rfl (by simp[maxLen])
 have bV:=hb.trans (bn.mono hb.size)
 have hsb:=h.lv.aF.size
 refine⟨V,hV,bV,hide ?_⟩
 have LV:=h.below bV
 have hIC:∀W,Out F V W→fJ W (.slice (some ⟨w5.heap.size,0,none⟩) 1 1) [⟨e,m,v,l⟩]:=fun W hW=>by
  have r1:bG 32 w5.heap.size W (.slice (some ⟨w5.heap.size,0,none⟩) 1 1) [⟨e,m,v,l⟩]:=dE iE fun g hg=>hW.block g (World.ownsRow.lt iE g hg).2 fun hF=>by
   have a1:=(World.ownsRow.lt iE g hg).1
   have a2:=h.lv.st.lt g hF
   have a3:=hb.size
   omega
  refine⟨r1.row,fun c hc=>?_⟩
  rw[List.mem_singleton.1 hc]
  have b0:Below w0.heap.size w0 W:=(LV.lv.aF).trans (hW.below (fun g hg=>(h.lv.new g hg).1) LV.lv.aF.size)
  exact⟨hv.below b0,he⟩
 refine(vI p _ F V s LV.lv.st (dD h.sz (by omega)) ⟨h.sz.2.2,h.lv.n0⟩ _ [⟨e,m,v,l⟩] hIC (fun c hc=>by rw[List.mem_singleton.1 hc];exact⟨hf,by show l.length*40≤_;omega⟩) (by simp)).mono ?_
 rintro E w' ⟨rfl,k⟩
 have ecv:aD [(⟨e,m,v,l⟩:Cw)]=[⟨e,m,l⟩]:=rfl
 rw[ecv]at k⊢
 obtain⟨F',l1,t1,a1,a2⟩:=LV.next k
 rcases Rst.apV hi h.has [⟨e,m,l⟩]with⟨c1,c2⟩|⟨c1,c2,c3,c4,c5⟩
 ·rw[c2]at l1
  exact⟨rfl,l1.aF,fun _=>⟨F',s,l1,⟨ps,hi⟩,h.has,h.sz.mono (by omega),t1,by have:=h.len;omega,⟨a1,a2⟩,h.new⟩,fun q=>absurd q c1⟩
 ·refine⟨rfl,l1.aF,fun q=>absurd c1 q,fun _=>hide ?_⟩
  obtain⟨_,hfi⟩:=Rst.au5 hi c1
  have hfi:Bm.first l=0:=hfi
  have hfo:=Rst.fold_add hi c1
  refine(wF tp tb w' _ v l t1 (hv.below l1.aF) hf (by have:=h.len;omega)).mono ?_
  rintro E w'' ⟨rfl,t2,o2⟩
  rw[show Tm.zb (Sto.fold (Rst.aZ s)) l=Sto.fold (Rst.aZ (Rst.add s [⟨e,m,l⟩]).2)by
   unfold Tm.zb
   rw[if_pos hfi,hfo]]at t2
  rw[hfi]
  have st2:=l1.st.agree (w':=w'') (fun g hg=>o2.block g (l1.st.lt g hg) fun e=>a2 (e▸hg)) o2.size (gm l1.st.gB o2 fun e=>t1.row l1.st.gB.c0 e)
  refine⟨rfl,F',_,⟨st2,l1.new,l1.aF.trans (o2.below (fun g hg=>by rw[hg];exact h.new.1) l1.aF.size)⟩,⟨ps,c2⟩,c3,afT h.sz _ (by simp),t2,?_,⟨a1,a2⟩,h.new⟩
  rw[hfo]
  have q1:=Tm.uZ l (Sto.fold (Rst.aZ s))
  have:=h.len
  show(Tm.app (Sto.fold (Rst.aZ s)) l).length≤_
  omega
end
end Go.Proofs.YtpifdeoepppadaaGreatDoor
namespace Go.Proofs.YtpifdeoepppadaaGreatDoor
open Go.RowKit
open Bm (Ov)
set_option linter.unusedVariables false
structure Rw where
 v:Value
 l:List Ov
def rwc (a:Rw):List Value:=[a.v]
theorem auz (a:Rw):(rwc a).length=1:=rfl
def aBd (w:World) (v:Value) (r:List Rw):Prop:=iJ rwc w v r∧∀a∈r,dm w a.v a.l
end Go.Proofs.YtpifdeoepppadaaGreatDoor
namespace Go.Proofs.YtpifdeoepppadaaGreatDoor
open Go.RowKit Go.ChangeShapes Go.WideShapes Go.Deep
set_option linter.unusedVariables false
def aly (s:ByteArray):List Value:=[.string s]
theorem afW (s:ByteArray):(aly s).length=1:=rfl
def IsS (w:World) (v:Value) (ks:List ByteArray):Prop:=iJ aly w v ks
def aoB (ks:List ByteArray):Prop:=∀s∈ks,s.size≤140737488351232
theorem IsS.full {w:World}{v:Value}{r:List ByteArray}(h:IsS w v r)(hne:0<r.length):
  ∃b off cap,v=.slice (some ⟨b,off,none⟩) r.length cap∧r.length≤cap∧cap≤maxLen∧b<w.heap.size∧∀i a,r[i]? =some a→w.cell? ⟨b,off+i,none⟩=some (.string a):=by
 obtain⟨b,off,cap,h1,h2,h3,h4,h5⟩:=iJ.full afW (by decide) h hne
 refine⟨b,off,cap,h1,h2,h3,h4,fun i a ha=>?_⟩
 have:=h5 i a ha 0 (.string a) rfl
 simpa using this
section
variable {H:Type} {enc:TypeId×Value→H} {P:Program} {w:World} {base:Nat} {spare:Nat→Bool} {held:Bool}
theorem az3 {t e o:TypeId}{g0 g1 g2:Field}{fuel:Nat}{v:Value}{x:DataW H×List MemPlace}(ht:P.underlying t=some (.slice e))(he:P.underlying e=some (.slice o))(ce:P.cellsOf e=1)
  (ho:P.underlying o=some (.struct #[g0,g1,g2])) (hone':oneCellFields P #[g0,g1,g2]=true) (co:P.cellsOf o=3) (k0:P.underlying g0.type=some .bool) (k1:P.underlying g1.type=some .string) (k2:P.underlying g2.type=some .string)
  (h:DataW.trod enc P w base spare held fuel t [v]=some x):∃r:List Rw,aBd w v r∧((x.1=.nil∧r=[])∨∃ds sp,x.1=.slice ds sp∧ds.length=r.length∧∀(i:Nat) (c:Rw),r[i]? =some c→∃d,ds[i]? =some d∧agR d c.l):=by
 rcases open_slice ht h with⟨hv,hx⟩|⟨a,len,cap,m,n,D,Pl,hv,hb,hl,hm,hmm,rfl,hx⟩
 ·simp at hv
  subst hv hx
  exact⟨[],⟨iJ.nil _ _,fun a ha=>by simp at ha⟩,.inl ⟨rfl,rfl⟩⟩
 ·simp at hv
  subst hv
  have hlm:len≤m:=by rw[hmm];split<;>omega
  have each:∀i,i<len→∃c:Rw,w.cell? (a.add i)=some c.v∧dm w c.v c.l∧agR (D i) c.l:=by
   intro i hi
   obtain⟨cs',h1,h2⟩:=hx i (by omega)
   rw[ce]at h1
   obtain⟨_,hlen,hcell⟩:=World.cells?_some h1
   match cs',hlen with
   |[v0],_=>
    obtain⟨l,hl2,hd2⟩:=aaW he ho hone' co k0 k1 k2 h2
    have e0:=hcell 0 (by omega)
    rw[Go.Deep.add_add]at e0
    exact⟨⟨v0,l⟩,by simpa using e0,hl2,hd2⟩
  have:Inhabited Rw:=⟨⟨.slice none 0 0,[]⟩⟩
  obtain⟨f,hf⟩:=choose_lt each
  refine⟨(List.range len).map f,⟨.inr ⟨a,cap,by simp,by simpa using hl,hm,fun j u hj=>?_⟩,fun c hc=>?_⟩,.inr ⟨(List.range len).map D,(List.range (m-len)).map fun j=>D (len+j),rfl,by simp,fun i c hic=>?_⟩⟩
  ·obtain⟨i,c,m',hic,rfl,hu⟩:=qo auz (by decide) _ j u hj
   obtain⟨hi,e⟩:=List.getElem?_eq_some_iff.1 hic
   simp at hi e
   subst e
   have hm0:m'=0:=by
    have:=(List.getElem?_eq_some_iff.1 hu).1
    simp[rwc]at this
    exact this
   subst hm0
   simp[rwc]at hu
   subst hu
   simpa using(hf i hi).1
  ·obtain⟨i,hi,rfl⟩:=List.mem_map.1 hc
   exact(hf i (by simpa using hi)).2.1
  ·obtain⟨hi,e⟩:=List.getElem?_eq_some_iff.1 hic
   simp at hi e
   subst e
   exact⟨D i,by simp[hi],(hf i hi).2.2⟩
def agz (d:DataW H) (s:ByteArray):Prop:=d=.lit (.string s.data.toList)
theorem open_strs {t e:TypeId}{fuel:Nat}{v:Value}{x:DataW H×List MemPlace}(ht:P.underlying t=some (.slice e))(he:P.underlying e=some .string)(ce:P.cellsOf e=1)
  (h:DataW.trod enc P w base spare held fuel t [v]=some x):∃r:List ByteArray,IsS w v r∧((x.1=.nil∧r=[])∨∃ds sp,x.1=.slice ds sp∧ds.length=r.length∧∀(i:Nat) (c:ByteArray),r[i]? =some c→∃d,ds[i]? =some d∧agz d c):=by
 rcases open_slice ht h with⟨hv,hx⟩|⟨a,len,cap,m,n,D,Pl,hv,hb,hl,hm,hmm,rfl,hx⟩
 ·simp at hv
  subst hv hx
  exact⟨[],iJ.nil _ _,.inl ⟨rfl,rfl⟩⟩
 ·simp at hv
  subst hv
  have hlm:len≤m:=by rw[hmm];split<;>omega
  have each:∀i,i<len→∃c:ByteArray,w.cell? (a.add i)=some (.string c)∧agz (D i) c:=by
   intro i hi
   obtain⟨cs',h1,h2⟩:=hx i (by omega)
   rw[ce]at h1
   obtain⟨_,hlen,hcell⟩:=World.cells?_some h1
   match cs',hlen with
   |[v0],_=>
    obtain⟨s,hs,hsd,_⟩:=DataW.trod_string he h2
    simp at hs
    subst hs
    have e0:=hcell 0 (by omega)
    rw[Go.Deep.add_add]at e0
    exact⟨s,by simpa using e0,by unfold agz;simpa using congrArg Prod.fst hsd⟩
  have:Inhabited ByteArray:=⟨⟨#[]⟩⟩
  obtain⟨f,hf⟩:=choose_lt each
  refine⟨(List.range len).map f,.inr ⟨a,cap,by simp,by simpa using hl,hm,fun j u hj=>?_⟩,.inr ⟨(List.range len).map D,(List.range (m-len)).map fun j=>D (len+j),rfl,by simp,fun i c hic=>?_⟩⟩
  ·obtain⟨i,c,m',hic,rfl,hu⟩:=qo afW (by decide) _ j u hj
   obtain⟨hi,e⟩:=List.getElem?_eq_some_iff.1 hic
   simp at hi e
   subst e
   have hm0:m'=0:=by
    have:=(List.getElem?_eq_some_iff.1 hu).1
    simp[aly]at this
    exact this
   subst hm0
   simp[aly]at hu
   subst hu
   simpa using(hf i hi).1
  ·obtain⟨hi,e⟩:=List.getElem?_eq_some_iff.1 hic
   simp at hi e
   subst e
   exact⟨D i,by simp[hi],(hf i hi).2⟩
theorem akv {ts:List TypeId}{ds:List (DataW H)}(h:(DataW.weightsEach P ts ds).all (·≤reachBytes)=true){j:Nat}{t e:TypeId}{r:List ByteArray}{es sp:List (DataW H)}(ht:ts[j]? =some t)(hd:ds[j]? =some (.slice es sp))(hlen:es.length=r.length)(hr:∀(i:Nat) (c:ByteArray),r[i]? =some c→∃d,es[i]? =some d∧agz d c)
  (hu:P.underlying t=some (.slice e)) (he:P.underlying e=some .string) (hb:P.bytesOf e=16):
  aoB r∧r.length*16≤140737488351232:=by
 have hall:=List.all_eq_true.1 h
 refine⟨fun c hc=>?_,?_⟩
 ·obtain⟨i,hi⟩:=List.getElem?_of_mem hc
  obtain⟨d,hd1,hd2⟩:=hr i c hi
  have key:c.data.toList.length≤reachBytes:=of_decide_eq_true (hall _ (DataW.weights_mem_each ht hd _ (by
   simp only[DataW.weights,hu]
   refine List.mem_cons_of_mem _ (List.mem_append_left _ (lu (List.mem_of_getElem? hd1) ?_))
   unfold agz at hd2
   subst hd2
   simp[DataW.weights])))
  rw[Lib.size_eq]
  exact key
 ·have:=sized_slice h ht hd hu
  rw[hb]at this
  simp only[reachBytes]at this
  omega
end
end Go.Proofs.YtpifdeoepppadaaGreatDoor

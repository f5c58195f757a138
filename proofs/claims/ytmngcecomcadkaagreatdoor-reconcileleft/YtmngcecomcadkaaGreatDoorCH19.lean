/- Texts of one layer, one behind the other. -/
import Derived.Test.YtmngcecomcadkaaGreatDoorCZPh
import Derived.Test.YtmngcecomcadkaaGreatDoorCH16
import Derived.Test.YtmngcecomcadkaaGreatDoorCH8
import Derived.Test.YtmngcecomcadkaaGreatDoorCH15
import Derived.Test.YtmngcecomcadkaaGreatDoorCH20
import Derived.Test.YtmngcecomcadkaaGreatDoorCH18
import Derived.Test.YtmngcecomcadkaaGreatDoorCM3
import Derived.Test.YtmngcecomcadkaaGreatDoorCH14
import Derived.Test.YtmngcecomcadkaaGreatDoorCG2
set_option maxRecDepth 100000
set_option maxHeartbeats 8000000
namespace Go.Proofs.YtmngcecomcadkaaGreatDoor
open Go.RowKit Go.Shelf
set_option linter.unusedVariables false
attribute [local go_sem] Oper.semAt_some
def wgo (file:Nat):Dm.Ds→List (List Int)→Int×Dm.Ds
 |st,[]=>(0,st)
 |st,c::cs=>if Dm.off st then(6,Dm.ig st)else wgo file (Dm.push (Dm.bB st) ⟨file,false,0,c⟩) cs
theorem akj (file:Nat):∀(cs:List (List Int)) (st:Dm.Ds),(wgo file st cs).1=0∨(wgo file st cs).1=6
 |[],_=>.inl rfl
 |c::cs,st=>by
  rw[wgo]
  split
  ·exact .inr rfl
  ·exact akj file cs _
theorem afq (file:Nat):∀(a:List (List Int)) (b:List (List Int)) (st:Dm.Ds),(wgo file st a).1=6→wgo file st (a++b)=wgo file st a
 |[],b,st,h=>by simp[wgo]at h
 |c::a,b,st,h=>by
  rw[List.cons_append,wgo]
  rw[wgo]at h⊢
  split
  ·rfl
  ·rename_i ho
   rw[if_neg ho]at h
   exact afq file a b _ h
theorem ad4 (file:Nat)(c:List Int):∀(a:List (List Int)) (st:Dm.Ds),(wgo file st a).1=0→wgo file st (a++[c])=if Dm.off (wgo file st a).2 then(6,Dm.ig (wgo file st a).2)else(0,Dm.push (Dm.bB (wgo file st a).2) ⟨file,false,0,c⟩)
 |[],st,h=>rfl
 |d::a,st,h=>by
  rw[List.cons_append,wgo]
  rw[wgo]at h⊢
  split
  ·rename_i ho
   rw[if_pos ho]at h
   simp at h
  ·rename_i ho
   rw[if_neg ho]at h
   exact ad4 file c a _ h
theorem ae6 (file:Nat):∀(a:List (List Int)) (st:Dm.Ds),(wgo file st a).2.wait.length≤st.wait.length+a.length∧(wgo file st a).2.count≤st.count+a.length∧(wgo file st a).2.left≤st.left
 |[],st=>by simp[wgo]
 |c::a,st=>by
  rw[wgo]
  split
  ·simp[Dm.ig]
  ·obtain⟨h1,h2,h3⟩:=ae6 file a (Dm.push (Dm.bB st) ⟨file,false,0,c⟩)
   have e1:(Dm.push (Dm.bB st) ⟨file,false,0,c⟩).wait.length=st.wait.length+1:=by simp[Dm.push,Dm.bB]
   have e2:(Dm.push (Dm.bB st) ⟨file,false,0,c⟩).count=st.count+1:=rfl
   have e3:(Dm.push (Dm.bB st) ⟨file,false,0,c⟩).left≤st.left:=by simp only[Dm.push,Dm.bB];split<;>omega
   rw[List.length_cons]
   refine⟨by omega,by omega,by omega⟩
def pieces:Nat→List Int→List (List Int)
 |0,_=>[]
 |n+1,bs=>if bs=[]then []else bs.take 64::pieces n (bs.drop 64)
theorem aaJ (file:Nat):∀(n:Nat) (st:Dm.Ds) (bs:List Int),Dm.wrt file n st bs=wgo file st (pieces n bs)
 |0,st,bs=>rfl
 |n+1,st,bs=>by
  rw[Dm.wrt,pieces]
  by_cases h:bs=[]
  ·rw[if_pos h,if_pos h];rfl
  ·rw[if_neg h,if_neg h,wgo]
   split
   ·rfl
   ·exact aaJ file n _ _
def ck (bs:List Int) (i:Nat):List Int:=(bs.drop (i*64)).take 64
theorem vZ:∀(n:Nat) (bs:List Int),bs.length≤n→pieces n bs=(List.range (cnt bs.length)).map (ck bs)
 |0,bs,h=>by
  have:bs.length=0:=by omega
  rw[this]
  rfl
 |n+1,bs,h=>by
  rw[pieces]
  by_cases hb:bs=[]
  ·subst hb;rfl
  ·rw[if_neg hb]
   have h1:0<bs.length:=List.length_pos_iff.2 hb
   have e:cnt bs.length=cnt (bs.drop 64).length+1:=by rw[List.length_drop];unfold cnt;omega
   rw[e,List.range_succ_eq_map,List.map_cons,List.map_map,vZ n (bs.drop 64) (by rw[List.length_drop];omega)]
   congr 1
   apply List.map_congr_left
   intro i _
   simp only[ck,Function.comp,List.drop_drop]
   congr 2
   omega
theorem alI (L:Nat)(f:Nat→List Int):∀k,k≤cnt L→(up L k).map (fun x=>f x.1)=(List.range k).map f
 |0,_=>rfl
 |k+1,h=>by
  have h1:k*64<L:=by unfold cnt at h;omega
  rw[qd L k h1,List.map_append,alI L f k (by omega),List.range_succ,List.map_append]
  rfl
def jP (bs:List Int) {L:Nat} (pre:List (Cx L)):List (List Int):=pre.map fun x=>ck bs x.1
theorem aon (bs:List Int){L:Nat}(pre:List (Cx L))(x:Cx L):jP bs (pre++[x])=jP bs pre++[ck bs x.1]:=by simp[jP]
theorem abF (bs:List Int):jP bs (up bs.length (cnt bs.length))=pieces bs.length bs:=by
 unfold jP
 rw[alI _ _ _ (Nat.le_refl _),vZ _ _ (Nat.le_refl _)]
theorem alr (L k:Nat):∀j,∃r,up L (k+j)=up L k++r
 |0=>⟨[],by simp⟩
 |j+1=>by
  obtain⟨r,hr⟩:=alr L k j
  exact⟨r++(if h:(k+j)*64<L then [⟨k+j,h⟩]else []),by rw[←Nat.add_assoc,up,hr,List.append_assoc]⟩
theorem wL (bs:List Int)(i:Nat):(ck bs i).length=min 64 (bs.length-i*64):=by simp[ck]
theorem axG {W:World}{b off cap:Nat}{bs:List Int}(h:Is .u8 W (.slice (some ⟨b,off,none⟩) bs.length cap) bs)(i:Nat)(hi:i*64<bs.length):Is .u8 W (xO b off bs.length i) (ck bs i):=by
 have hs:=h.sub (i*64) (i*64+min 64 (bs.length-i*64)) (by omega) (by omega)
 have e1:i*64+min 64 (bs.length-i*64)-i*64=min 64 (bs.length-i*64):=by omega
 rw[e1]at hs
 have e2:(bs.drop (i*64)).take (min 64 (bs.length-i*64))=ck bs i:=by
  unfold ck
  by_cases h1:64≤bs.length-i*64
  ·rw[Nat.min_eq_left h1]
  ·rw[Nat.min_eq_right (by omega),List.take_of_length_le (by rw[List.length_drop];omega),List.take_of_length_le (by rw[List.length_drop];omega)]
 rw[e2]at hs
 obtain⟨b',off',cap',hv,h1,h2,_,hc⟩:=hs.full (by rw[wL];omega)
 simp only[Value.slice.injEq,Option.some.injEq,Addr.mk.injEq,and_true]at hv
 obtain⟨⟨rfl,rfl⟩,hl,rfl⟩:=hv
 refine⟨hs.1,.inr ⟨⟨b,off+i*64,none⟩,min 64 (bs.length-i*64),by rw[wL];rfl,by rw[wL];exact Nat.le_refl _,by unfold maxLen;omega,fun j hj=>?_⟩⟩
 rw[gF]
 exact hc j hj
theorem KeepsOthers.atU {F:Nat→Prop}{W W':World}(h:Out F W W')(hc:∀g,F g→∃cs t fr,W.heap[g]? =some (.cells cs t fr)):KeepsOthers W W':=
 ⟨h.size,fun k o hk ho=>by
  refine(h.block k (Array.getElem?_eq_some_iff.1 hk).1 fun hF=>?_).trans hk
  obtain⟨cs,t,fr,h1⟩:=hc k hF
  rw[hk]at h1
  cases h1
  simp[Obj.isCells]at ho⟩
def WI (p:Nat) (F:Nat→Prop) (W0:World) (st:Dm.Ds) (f:Nat) (bs:List Int) (e:Int) (G:Nat→Prop) (pre:List (Cx bs.length)) (W:World):Prop:=
 ∃F',Pk p F' W (wgo f st (jP bs pre)).2∧(wgo f st (jP bs pre)).1=e∧Out G W0 W∧∀g,F' g→F g∨W0.heap.size≤g
theorem WI.own {p:Nat}{F:Nat→Prop}{W0:World}{st:Dm.Ds}{f:Nat}{bs:List Int}{e:Int}{G:Nat→Prop}:OwnFrom W0.heap.size (WI p F W0 st f bs e G):=by
 rintro s W W' row ⟨F',hP,he,hO,hs⟩ hg hr
 refine⟨F',hP.agree fun g hgF=>?_,he,?_,hs⟩
 ·refine hg.block g (hP.lt g hgF) fun e1=>?_
  obtain⟨_,o,ho,hoc⟩:=hr g e1.symm
  obtain⟨cs,t,fr,h1⟩:=hP.cel g hgF
  rw[ho]at h1
  cases h1
  simp[Obj.isCells]at hoc
 ·exact hO.trans (Out.aQ (F:=fun g=>row=some g) hg fun g h=>h) fun g h=>.inr (hr g h).1
theorem agi {W W':World}(h:Below W.heap.size W W'):KeepsOthers W W':=⟨h.size,fun k o hk ho=>(h.block k (Array.getElem?_eq_some_iff.1 hk).1).trans hk⟩
theorem an5 (p:Nat)(F:Nat→Prop)(W0:World)(st:Dm.Ds)(f:Nat)(hf:f<4)(bs:List Int)(hF:∀g,F g→g<W0.heap.size)(pre:List (Cx bs.length))(x:Cx bs.length)(W:World)(hI:WI p F W0 st f bs 0 F pre W)(hlt:pre.length<cnt bs.length)
  (hw:st.wait.length+cnt bs.length≤1000000) (hl:st.left≤9223372036854775807) (hc:st.count+cnt bs.length<9223372036854775807) (v1:Value) (w1:World) (aX:Own .u8 5 W.heap.size w1 v1 (ck bs x.1)) (aj:Below W.heap.size W w1):
  Calls Tryz.prog 100 #[.pointer (some ⟨p,0,none⟩),.agg #[.int .i64 0,.int .i64 f,v1,.int .i64 0]] w1 fun E w2=>E=.returned (.int .i64 (wgo f st (jP bs (pre++[x]))).1)∧WI p F W0 st f bs (wgo f st (jP bs (pre++[x]))).1 F (pre++[x]) w2∧KeepsOthers W w2∧∀B,B<W0.heap.size→¬F B→w2.heap[B]? =W.heap[B]? :=by
 obtain⟨F',hP,he,hO,hs⟩:=hI
 obtain⟨z1,z2,z3⟩:=ae6 f (jP bs pre) st
 have hcl:(jP bs pre).length=pre.length:=by simp[jP]
 have hx:=x.2
 have hcx:=wL bs x.1
 refine(abj p F' w1 _ ⟨f,false,0,v1,ck bs x.1⟩ (hP.below aj) ⟨aX.is,fun b hb=>⟨trivial,by obtain⟨cs,h1⟩:=aX.type hb;exact⟨cs,_,h1⟩⟩⟩ (fun b hb hFb=>by have h1:=(aX.block b hb).1;have h2:=hP.lt b hFb;omega) ⟨hf,fun h=>by simp[Rv.r]at h,fun _=>by show 1≤(ck bs x.1).length∧(ck bs x.1).length≤64;omega⟩ (by omega) (by omega) (by omega)).mono ?_
 rintro E w2 ⟨rfl,F2,h1,h2,h3⟩
 have hsn:=ad4 f (ck bs x.1) (jP bs pre) st he
 rw[←aon,abD]at hsn
 have e1:(wgo f st (jP bs (pre++[x]))).1=if Dm.off (wgo f st (jP bs pre)).2 then 6 else 0:=by rw[hsn]
 have e2:(wgo f st (jP bs (pre++[x]))).2=if Dm.off (wgo f st (jP bs pre)).2 then Dm.ig (wgo f st (jP bs pre)).2 else Dm.push (Dm.bB (wgo f st (jP bs pre)).2) ⟨f,false,0,ck bs x.1⟩:=by rw[hsn]
 have hO1:Out F W0 w1:=hO.trans (Out.of_below (F:=F) aj) fun g hg=>.inl hg
 refine⟨by rw[e1],⟨F2,by rw[e2];exact h1,rfl,hO1.trans h2 hs,fun g hg=>?_⟩,(agi aj).trans (KeepsOthers.atU h2 (hP.below aj).cel),fun B hB hFB=>?_⟩
 ·rcases h3 g hg with h|h|h
  ·exact hs g h
  ·exact .inr (Nat.le_trans hO1.size h)
  ·exact .inr (Nat.le_trans hO.size (aX.block g h).1)
 ·refine(h2.block B (Nat.lt_of_lt_of_le hB hO1.size) fun h=>?_).trans (aj.block B (Nat.lt_of_lt_of_le hB hO.size))
  rcases hs B h with h4|h4
  ·exact hFB h4
  ·omega
theorem Tryz.mixed:Tryz.prog.follows .mixedOrders=true:=by kernel_rfl
theorem aj2 (n:Nat)(hn:1≤n)(Bs Bn b off cap:Nat)(bs:List Int)(sv:Value)(hsv:sv=.slice (some ⟨b,off,none⟩) bs.length cap∨(bs.length=0∧∃ao c,sv=.slice ao 0 c))(hcap:bs.length≤cap)(hcm:cap≤maxLen)(hLm:bs.length≤140737488355328)(w:World)(hs:Bs<w.heap.size)(hb:Bn<w.heap.size)(cs:w.cell? ⟨Bs,0,none⟩=some sv)(cn:w.cell? ⟨Bn,0,none⟩=some (.int .i64 64)):
  SeqStopsK Fence.wide n Tryz.prog 137 #[.pointer (some ⟨Bs,0,none⟩),.pointer (some ⟨Bn,0,none⟩)] (fun x:Cx bs.length=>#[xO b off bs.length x.1]) (Kc Bs Bn) (fun xs=>xs=up bs.length (cnt bs.length)) (fun pre=>∃k,k≤cnt bs.length∧pre=up bs.length k) (cnt bs.length) w:=fun l J Jx W hW hJ hJx hY h0=>
 akn n hn l Bs Bn b off bs.length cap sv hsv hcap hcm hLm J Jx W hJ hY ((hW.cell (p:=⟨Bs,0,none⟩) hs).trans cs) ((hW.cell (p:=⟨Bn,0,none⟩) hb).trans cn) h0
theorem ay9 {Bs Bn:Nat}{w:World}(h1:Bs<w.heap.size)(h2:Bn<w.heap.size)(W:World)(l:Nat)(o o':Obj)(hl:w.heap.size≤l)(h:W.heap[l]? =some o)(_:o.isCells=false)(_:o.isWalk=false):Kc Bs Bn W (W.putObj l o'):=
 ⟨World.putObj_heap_other (by omega),World.putObj_heap_other (by omega)⟩
theorem acV {p:Nat}{F:Nat→Prop}{w W0 W:World}{st:Dm.Ds}{f:Nat}{bs:List Int}{e:Int}{pre:List (Cx bs.length)}{G:Nat→Prop}(aF:Below w.heap.size w W0)(hF:∀g,F g→g<w.heap.size)(hG:∀g,G g→F g∨w.heap.size≤g)(h:WI p F W0 st f bs e G pre W){W2:World}(F2:Nat→Prop)(hO:Out F2 W W2)(hF2:∀g,F2 g→w.heap.size≤g)(hF3:∀g,F2 g→W0.heap.size≤g→∃o:Obj,W.heap[g]? =some o∧o.isCells=false):
  aV p F w W2 (wgo f st (jP bs pre)).2:=by
 obtain⟨F',hP,he,hO1,hs⟩:=h
 refine⟨F',hP.agree fun g hg=>hO.block g (hP.lt g hg) fun h2=>?_,?_,fun g hg=>?_⟩
 ·rcases hs g hg with h3|h3
  ·have:=hF g h3;have:=hF2 g h2;omega
  ·obtain⟨o,h4,h5⟩:=hF3 g h2 h3
   obtain⟨cs,t,fr,h6⟩:=hP.cel g hg
   rw[h4]at h6
   cases h6
   simp[Obj.isCells]at h5
 ·have q1:Out F w W:=(Out.of_below (F:=F) aF).trans hO1 hG
  exact q1.trans hO fun g hg=>.inr (hF2 g hg)
 ·rcases hs g hg with h3|h3
  ·exact .inl h3
  ·exact .inr (Nat.le_trans aF.size h3)
theorem arN (p:Nat)(F:Nat→Prop)(w:World)(st:Dm.Ds)(f:Nat)(hf:f<4)(vb:Value)(bs:List Int)(h:Pk p F w st)(hon:st.on=true)(hb:Is .u8 w vb bs)(hbF:0<bs.length→∀b,vb.ownBlock=some b→¬F b)(hLm:bs.length≤1000000)
  (hw:st.wait.length+cnt bs.length≤1000000) (hl:st.left≤9223372036854775807) (hc:st.count+cnt bs.length<9223372036854775807):
  Calls Tryz.prog 44 #[.pointer (some ⟨p,0,none⟩),.int .i64 f,vb] w fun E w'=>E=.returned (.int .i64 (wgo f st (pieces bs.length bs)).1)∧aV p F w w' (wgo f st (pieces bs.length bs)).2:=by
 obtain⟨b,off,cap,hsv,hcap,hcm⟩:∃b off cap,(vb=.slice (some ⟨b,off,none⟩) bs.length cap∨(bs.length=0∧∃ao c,vb=.slice ao 0 c))∧bs.length≤cap∧cap≤maxLen:=by
  by_cases h0:0<bs.length
  ·obtain⟨b,off,cap,h1,h2,h3,_⟩:=hb.full h0
   exact⟨b,off,cap,.inl h1,h2,h3⟩
  ·obtain⟨ao,cap,h1,h2,h3⟩:=hb.shape
   have h4:bs.length=0:=by omega
   exact⟨0,0,cap,.inr ⟨h4,ao,cap,by rw[h1,h4]⟩,h2,h3⟩
 obtain⟨w1,hw1,aT,aj,B1⟩:=ak w #[.pointer (some ⟨p,0,none⟩)] 39
 obtain⟨w2,hw2,dz,au,B2⟩:=ak w1 #[.int .i64 f] 3
 obtain⟨w3,hw3,cB,aD,B3⟩:=ak w2 #[.int .i64 0] 29
 obtain⟨w4,hw4,lZ,aK,B4⟩:=ak w3 #[vb] 61
 obtain⟨W0,qU,tQ,aZ,B5⟩:=ak w4 #[.int .i64 64] 3
 rw[aT]at B2 au
 rw[show w2.heap.size=w.heap.size+2 by omega]at B3 aD
 rw[show w3.heap.size=w.heap.size+3 by omega]at B4 aK
 rw[show w4.heap.size=w.heap.size+4 by omega]at B5 aZ
 have aY:Below w.heap.size w w3:=(aj.trans (au.mono (by omega))).trans (aD.mono (by omega))
 have dE:Below w.heap.size w W0:=(aY.trans (aK.mono (by omega))).trans (aZ.mono (by omega))
 have HR:=hide (kS p F w3 st (h.below aY))
 have HF:=hide (mK f w3)
 have hin:Dm.iW (f:Int)=true:=by simp[Dm.iW];omega
 rw[hin]at HF
 have hform:=hb.form
 have HCH:Hid (Calls Tryz.prog 99 #[vb,.int .i64 64] w3 fun e w'=>e=.returned (.func (.func 137) #[] #[.pointer (some ⟨w.heap.size+3,0,none⟩),.pointer (some ⟨w.heap.size+4,0,none⟩)])∧W0=w'):=hide (by
  refine(ajV vb hform w3).mono ?_
  rintro e w' ⟨rfl,rfl⟩
  rw[show w3.heap.size=w.heap.size+3 by omega]
  exact⟨rfl,by rw[hw4,qU]⟩)
 have hFw:=h.lt
 have I0:Hid (WI p F W0 st f bs 0 F [] W0):=hide ⟨F,h.below dE,rfl,Out.refl _ _,fun g hg=>.inl hg⟩
 have C0:w3.cell? ⟨w.heap.size,0,none⟩=some (.pointer (some ⟨p,0,none⟩)):=by
  have e1:=(au.block w.heap.size (by omega)).trans B1
  exact ai ((aD.block w.heap.size (by omega)).trans e1) 0 rfl
 have C1:w3.cell? ⟨w.heap.size+1,0,none⟩=some (.int .i64 f):=ai ((aD.block (w.heap.size+1) (by omega)).trans B2) 0 rfl
 have D0:W0.heap[w.heap.size]? =some (.cells #[.pointer (some ⟨p,0,none⟩)] 39 (0,0)):=(aZ.block _ (by omega)).trans ((aK.block _ (by omega)).trans ((aD.block _ (by omega)).trans ((au.block _ (by omega)).trans B1)))
 have D1:W0.heap[w.heap.size+1]? =some (.cells #[.int .i64 f] 3 (0,0)):=(aZ.block _ (by omega)).trans ((aK.block _ (by omega)).trans ((aD.block _ (by omega)).trans B2))
 have D2:W0.heap[w.heap.size+2]? =some (.cells #[.int .i64 0] 29 (0,0)):=(aZ.block _ (by omega)).trans ((aK.block _ (by omega)).trans B3)
 have D3:W0.heap[w.heap.size+3]? =some (.cells #[vb] 61 (0,0)):=(aZ.block _ (by omega)).trans B4
 have auW:∀W,Out F W0 W→Is .u8 W vb bs:=fun W hO=>by
  by_cases h0:0<bs.length
  ·have h1:=hb.lt h0
   refine(hb.below dE).agree fun g hg=>hO.block g (Nat.lt_of_lt_of_le (h1 g hg) dE.size) (hbF h0 g hg)
  ·refine⟨hb.1,?_⟩
   rcases hb.2 with h1|⟨ad,cp,h1,h2,h3,_⟩
   ·exact .inl h1
   ·exact .inr ⟨ad,cp,h1,h2,h3,fun i hi=>by omega⟩
 have HIB:=hide auW
 have aqT:∀W,Out F W0 W→∀B,w.heap.size≤B→B<W0.heap.size→W.heap[B]? =W0.heap[B]? :=fun W hO B h1 h2=>hO.block B h2 fun h3=>by have:=hFw B h3;omega
 have HST:=hide aqT
 have hk:=sI hon
 have SEQ:=hide (aj2 5 (by omega) (w.heap.size+3) (w.heap.size+4) b off cap bs vb hsv hcap hcm (by omega) W0 (by omega) (by omega) (ai D3 0 rfl) (ai B5 0 rfl))
 have HW:Hid (∀g,F g→g<w.heap.size):=hide hFw
 have hmx:=Tryz.mixed
 replace dz:w2.heap.size=w.heap.size+2:=by omega
 replace cB:w3.heap.size=w.heap.size+3:=by omega
 replace tQ:W0.heap.size=w.heap.size+5:=by omega
 obtain⟨va,vn,vc,hvf⟩:=hform
 have HVF:=hide hvf
 have HVB:=hide hsv
 have DD:=hide (And.intro D0 (And.intro D1 D2))
 clear h hb hsv D3 B1 B2 B3 B4 B5 auW aqT hFw hbF D0 D1 D2 hw4 qU lZ aK aZ hvf
 refine(callsIn_wide (n:=6)).1 ?_
 refine callsIn_of_wp_marks Tryz.func44 rfl trivial ?_ rfl
 simp only[Tryz.ntmps44,List.size_toArray,List.length_cons,List.length_nil,Nat.reduceAdd,Nat.reduceSub,Array.replicate_succ,Array.replicate_zero,List.push_toArray,List.append_toArray,List.nil_append,List.cons_append]
 gi_wp2_with fail
 refine⟨trivial,(callsIn_wide.2 HR.out).mono ?_⟩
 rintro E w' ⟨rfl,rfl⟩
 rw[hk]
 gi_wp2_with fail
 refine⟨trivial,(callsIn_wide.2 HF.out).mono ?_⟩
 rintro E w' ⟨rfl,rfl⟩
 gi_wp2_with fail
 refine⟨trivial,(callsIn_wide.2 HCH.out).mono ?_⟩
 rintro E w' ⟨rfl,rfl⟩
 clear hw1 hw2 hw3 C0 C1
 gi_wp2_with fail
 refine wpIn_rangeFunc_ownF rfl (by omega) (gf:=137) (lb:=#[.pointer (some ⟨w.heap.size+3,0,none⟩),.pointer (some ⟨w.heap.size+4,0,none⟩)]) rfl trivial (enters_of Tryz.func137 (by kernel_rfl) rfl) SEQ.out Kc.trans (ay9 (by omega) (by omega)) (Below.refl _ _) (fun _=>rfl)
  (WI p F W0 st f bs 0 F)
  (fun c pre W=>(c=.ret∧W.heap[w.heap.size+2]? =some (.cells #[.int .i64 6] 29 (0,0)))∧WI p F W0 st f bs 6 (fun g=>F g∨g=w.heap.size+2) pre W)
  WI.own
  (fun c=>OwnFrom.and (fun s A B row hs hg hr=>⟨hs.1,(hg.block (w.heap.size+2) (ax hs.2) fun e=>by have:=(hr _ e.symm).1;omega).trans hs.2⟩) WI.own)
  I0.out
  (fun x=>{tmps:=#[.pointer (some ⟨p,0,none⟩),.int .i64 f,vb,.pointer (some ⟨w.heap.size,0,none⟩),.pointer (some ⟨w.heap.size+1,0,none⟩),undef,.pointer (some ⟨w.heap.size+2,0,none⟩),.int .i64 0,xO b off bs.length x.1,undef,.pointer (some ⟨p,0,none⟩),.int .i64 0,.int .i64 0,.bool false,undef,.int .i64 f,.bool true,.bool false,vb,.func (.func 137) #[] #[.pointer (some ⟨w.heap.size+3,0,none⟩),.pointer (some ⟨w.heap.size+4,0,none⟩)],xO b off bs.length x.1,undef,undef,undef,undef,undef,undef,undef,undef,undef],defers:=[]}) ?assign ?body ?done ?stop
 case assign=>
  intro l x W K hK
  gi_wp2
  exact hK
 case body=>
  rintro l pre x W hI hlt
  have jT:Out F W0 W:=by
   obtain⟨_,_,_,h1,_⟩:=hI
   exact h1
  have g0:=(HST.out W jT w.heap.size (by omega) (by omega)).trans DD.out.1
  have g1:=(HST.out W jT (w.heap.size+1) (by omega) (by omega)).trans DD.out.2.1
  have eR:=(HST.out W jT (w.heap.size+2) (by omega) (by omega)).trans DD.out.2.2
  have x0:W.cell? ⟨w.heap.size,0,none⟩=some (.pointer (some ⟨p,0,none⟩)):=ai g0 0 rfl
  have x1:W.cell? ⟨w.heap.size+1,0,none⟩=some (.int .i64 f):=ai g1 0 rfl
  have hvb:vb=.slice (some ⟨b,off,none⟩) bs.length cap:=by
   rcases HVB.out with h1|⟨h1,_⟩
   ·exact h1
   ·have:=x.2;omega
  have isx:Is .u8 W (xO b off bs.length x.1) (ck bs x.1):=axG (by rw[←hvb];exact HIB.out W jT) x.1 x.2
  have hW0:=jT.size
  have HC:Hid (Calls Tryz.prog 40 #[xO b off bs.length x.1] W.drew fun E w1=>∃v1,E=.returned v1∧Own .u8 5 W.heap.size w1 v1 (ck bs x.1)∧Below W.heap.size W w1∧w1.cell? ⟨w.heap.size,0,none⟩=some (.pointer (some ⟨p,0,none⟩))∧w1.cell? ⟨w.heap.size+1,0,none⟩=some (.int .i64 f)):=hide (by
   refine(pX _ _ W.drew (isx.drewN 1) (by rw[wL];omega)).mono ?_
   rintro E w1 ⟨v1,rfl,aX,aj⟩
   have aju:Below W.heap.size W w1:=(below_drewN (Below.refl _ _) 1).trans aj
   exact⟨v1,rfl,aX,aju,(aju.cell (p:=⟨w.heap.size,0,none⟩) (by show w.heap.size<W.heap.size;omega)).trans x0,(aju.cell (p:=⟨w.heap.size+1,0,none⟩) (by show w.heap.size+1<W.heap.size;omega)).trans x1⟩)
  have HDO:=hide (an5 p F W0 st f hf bs (fun g hg=>by have:=HW.out g hg;omega) pre x W hI hlt hw hl hc)
  have hd1:1≤6-1-1:=by omega
  have HeR:=hide eR
  have HOUT:=hide jT
  clear hI g0 g1 isx hvb eR jT
  rcases akj f (jP bs (pre++[x])) st with he|he
  ·have eR:=HeR.out
   rw[he]at HDO
   gi_wp2_with fail
   gi_region_with_o (first
    |(refine⟨trivial,?_⟩;gi_at_call 40;refine(CallsIn.inRound l (callsIn_wide.2 HC.out)).mono ?_;rintro E w1 ⟨v1,rfl,aX,aj,y0,y1⟩;obtain⟨a1,k1,hv1,_,_⟩:=aX.is.shape;subst hv1;have HOW:=hide aX)
    |(refine⟨trivial,?_⟩;gi_at_call 100;refine(CallsIn.inRound l (callsIn_wide.2 (HDO.out _ _ HOW.out aj))).mono ?_;rintro E w2 ⟨rfl,J,KO,KB⟩;have J:=hide J;have z2:=(KB (w.heap.size+2) (by omega) (fun h3=>by have:=HW.out _ h3;omega)).trans eR;have cz2:w2.cell? ⟨w.heap.size+2,0,none⟩=some (.int .i64 0):=ai z2 0 rfl;have fz2:=aA z2 0;have HKB:=hide KB;clear KB))
   all_goals gi_wp2
   all_goals
    have k1:=HKB.out (w.heap.size+3) (by omega) (fun h3=>by have:=HW.out _ h3;omega)
    have k2:=HKB.out (w.heap.size+4) (by omega) (fun h3=>by have:=HW.out _ h3;omega)
    exact⟨KO,⟨k1,k2⟩,J.out⟩
  ·have eR:=HeR.out
   rw[he]at HDO
   gi_wp2_with fail
   gi_region_with_o (first
    |(refine⟨trivial,?_⟩;gi_at_call 40;refine(CallsIn.inRound l (callsIn_wide.2 HC.out)).mono ?_;rintro E w1 ⟨v1,rfl,aX,aj,y0,y1⟩;obtain⟨a1,k1,hv1,_,_⟩:=aX.is.shape;subst hv1;have HOW:=hide aX)
    |(refine⟨trivial,?_⟩;gi_at_call 100;refine(CallsIn.inRound l (callsIn_wide.2 (HDO.out _ _ HOW.out aj))).mono ?_;rintro E w2 ⟨rfl,J,KO,KB⟩;have J:=hide J;have z2:=(KB (w.heap.size+2) (by omega) (fun h3=>by have:=HW.out _ h3;omega)).trans eR;have cz2:w2.cell? ⟨w.heap.size+2,0,none⟩=some (.int .i64 0):=ai z2 0 rfl;have fz2:=aA z2 0;have HKB:=hide KB;clear KB))
   all_goals gi_wp2
   all_goals
    refine⟨KO.trans (KeepsOthers.setCell _ _ _),⟨rfl,by rw[aH z2];rfl⟩,?_⟩
    obtain⟨F',j1,j2,j3,j4⟩:=J.out
    have hnF:¬F' (w.heap.size+2):=fun h3=>by
     rcases j4 _ h3 with h4|h4
     ·have:=HW.out _ h4;omega
     ·omega
    have so:Out (fun g=>g=w.heap.size+2) w2 (w2.setCell ⟨w.heap.size+2,0,none⟩ (.int .i64 6)):=Out.aQ (az w2 ⟨w.heap.size+2,0,none⟩ _) fun g hg=>by simp at hg;exact hg.symm
    exact⟨F',j1.out so (fun g hg h5=>hnF (h5▸hg)),j2,(j3.mono (G:=fun g=>F g∨g=w.heap.size+2) fun g hg=>.inl (.inl hg)).trans so fun g hg=>.inl (.inr hg),j4⟩
 case done=>
  rintro D xs W hD rfl hI hK
  have jT:Out F W0 W:=by
   obtain⟨_,_,_,h1,_⟩:=hI
   exact h1
  have eR:=(HST.out W jT (w.heap.size+2) (by omega) (by omega)).trans DD.out.2.2
  have cR:W.cell? ⟨w.heap.size+2,0,none⟩=some (.int .i64 0):=ai eR 0 rfl
  have fR:=aA eR 0
  have HI:=hide hI
  have HK:=hide hK
  have HeR:=hide eR
  clear hI eR
  gi_wp2
  have hK':=(KeepsOthers.setCell W ⟨w.heap.size+2,0,none⟩ (.int .i64 0)).same D _ HK.out rfl
  refine⟨by simp,.inl ⟨_,_,rfl,run_takeDeferred hK',?_⟩⟩
  have hc5:=cell_kept (World.cell?_setCell_same' W ⟨w.heap.size+2,0,none⟩ (.int .i64 0) (by rw[cR];rfl)) (grownBy_putObj' _ D (.deferred none)) (fun r e=>by cases e;exact⟨_,hK',rfl⟩)
  have hend:=acV dE HW.out (fun g hg=>.inl hg) HI.out (fun g=>g=w.heap.size+2∨g=D) ((Out.aQ (F:=fun g=>g=w.heap.size+2∨g=D) (az W ⟨w.heap.size+2,0,none⟩ (.int .i64 0)) fun g hg=>.inl (by simp at hg;exact hg.symm)).trans (Out.aQ (F:=fun g=>g=w.heap.size+2∨g=D) (grownBy_putObj' _ D (.deferred none)) fun g hg=>.inr (by simp at hg;exact hg.symm)) fun g hg=>.inl hg) (fun g hg=>by rcases hg with h|h<;>omega) (fun g hg h2=>by
   rcases hg with h|h
   ·omega
   ·exact⟨_,by rw[h];exact HK.out,rfl⟩)
  have he:(wgo f st (pieces bs.length bs)).1=0:=by
   obtain⟨_,_,h1,_⟩:=HI.out
   rw[abF]at h1
   exact h1
  rw[abF]at hend
  refine⟨.int .i64 0,?_,by rw[he],hend⟩
  simp[results,Tryz.results44,go_sem,hc5]
 case stop=>
  rintro D c pre W hD ⟨k,hk2,rfl⟩ ⟨⟨rfl,eR⟩,hI⟩ hK
  have HI:=hide hI
  have HK:=hide hK
  have cR:W.cell? ⟨w.heap.size+2,0,none⟩=some (.int .i64 6):=ai eR 0 rfl
  clear hI eR
  gi_wp2
  refine⟨by simp,.inl ⟨_,_,rfl,run_takeDeferred HK.out,?_⟩⟩
  have hc5:=cell_kept cR (grownBy_putObj' _ D (.deferred none)) (fun r e=>by cases e;exact⟨_,HK.out,rfl⟩)
  have hend:=acV dE HW.out (fun g hg=>by rcases hg with h|h;exact .inl h;exact .inr (by omega)) HI.out (fun g=>g=D) (Out.aQ (F:=fun g=>g=D) (grownBy_putObj' _ D (.deferred none)) fun g hg=>by simp at hg;exact hg.symm) (fun g hg=>by omega) (fun g hg h2=>⟨.deferred (some []),by rw[hg];exact HK.out,rfl⟩)
  obtain⟨r,hr⟩:∃r,up bs.length (cnt bs.length)=up bs.length k++r:=by
   obtain⟨r,hr⟩:=alr bs.length k (cnt bs.length-k)
   rw[show k+(cnt bs.length-k)=cnt bs.length by omega]at hr
   exact⟨r,hr⟩
  have h6:(wgo f st (jP bs (up bs.length k))).1=6:=by
   obtain⟨_,_,h1,_⟩:=HI.out
   exact h1
  have e1:wgo f st (pieces bs.length bs)=wgo f st (jP bs (up bs.length k)):=by
   rw[←abF,hr]
   unfold jP at h6⊢
   rw[List.map_append]
   exact afq f _ _ st h6
  refine⟨.int .i64 6,?_,by rw[e1,h6],by rw[e1];exact hend⟩
  simp[results,Tryz.results44,go_sem,hc5]
end Go.Proofs.YtmngcecomcadkaaGreatDoor
namespace Go.Proofs.YtmngcecomcadkaaGreatDoor
open Go.RowKit
set_option linter.unusedVariables false
def Big (t u:Nat) (st:Dm.Ds):Prop:=Dm.Sz t u st∧st.left≤9223372036854775807
theorem Big.mono {t u t' u':Nat}{st:Dm.Ds}(h:Big t u st)(ht:t≤t')(hu:u≤u'):Big t' u' st:=
 ⟨⟨fun f=>Nat.le_trans (h.1.1 f) ht,Nat.le_trans h.1.2.1 hu,Nat.le_trans h.1.2.2 hu⟩,h.2⟩
theorem yu:Big 0 0 Dm.new:=⟨⟨fun f=>by simp[Dm.new,Dm.gm],by simp[Dm.new],by simp[Dm.new]⟩,by simp[Dm.new]⟩
theorem zG {t u:Nat}{st:Dm.Ds}(h:Big t u st):Big t u (Dm.ig st):=h
theorem aeY {t u:Nat}{st:Dm.Ds}(h:Big t u st):Big t (u+1) (Dm.bB st):=
 ⟨⟨h.1.1,Nat.le_trans h.1.2.1 (by omega),by show st.count+1≤u+1;have:=h.1.2.2;omega⟩,by show(if st.has then st.left-1 else st.left)≤_;have:=h.2;split<;>omega⟩
theorem aes {t u:Nat}{st:Dm.Ds}(h:Big t u st)(r:Dm.Rw):Big (t+r.bytes.length) (u+1) (Dm.push (Dm.bB st) r):=by
 have hb:=aeY h
 refine⟨⟨fun f=>?_,?_,hb.1.2.2⟩,hb.2⟩
 ·have h1:=h.1.1 f
  show(st.sure f).length+Dm.gm (st.wait++[r])≤_
  rw[Dm.zU]
  simp only[Dm.gm]
  omega
 ·have h1:=h.1.2.1
  show(st.wait++[r]).length≤_
  rw[List.length_append]
  simp only[List.length_cons,List.length_nil]
  omega
theorem ag3 (file:Nat):∀(n:Nat) (bs:List Int) (t u:Nat) (st:Dm.Ds),Big t u st→Big (t+bs.length) (u+cnt bs.length) (Dm.wrt file n st bs).2
 |0,bs,t,u,st,h=>h.mono (by omega) (by omega)
 |n+1,bs,t,u,st,h=>by
  rw[Dm.wrt]
  by_cases hb:bs=[]
  ·rw[if_pos hb];exact h.mono (by omega) (by omega)
  ·rw[if_neg hb]
   have h1:0<bs.length:=List.length_pos_iff.2 hb
   split
   ·exact(zG h).mono (by omega) (by omega)
   ·have:=ag3 file n (bs.drop 64) _ _ _ (aes h ⟨file,false,0,bs.take 64⟩)
    refine this.mono ?_ ?_
    ·simp only[List.length_take,List.length_drop];omega
    ·rw[List.length_drop];unfold cnt;omega
theorem ku {t u:Nat}{st:Dm.Ds}(h:Big t u st)(file:Int)(bs:List Int):Big (t+bs.length) (u+cnt bs.length) (Dm.write st file bs).2:=by
 unfold Dm.write
 split
 ·exact h.mono (by omega) (by omega)
 ·split
  ·exact h.mono (by omega) (by omega)
  ·exact ag3 _ _ _ _ _ _ h
theorem sS {t u:Nat}{st:Dm.Ds}(h:Big t u st)(file len:Int):Big t (u+1) (Dm.cK st file len).2:=by
 unfold Dm.cK
 split
 ·exact h.mono (by omega) (by omega)
 ·split
  ·exact h.mono (by omega) (by omega)
  ·split
   ·exact h.mono (by omega) (by omega)
   ·split
    ·exact(zG h).mono (by omega) (by omega)
    ·exact aes h _
theorem akb {t u:Nat}{st:Dm.Ds}(h:Big t u st):Big t u (Dm.flush st):=
 ⟨⟨fun f=>by
  have h1:=h.1.1 f
  have h2:=agW st.sure st.wait f
  show(Dm.dof st.sure st.wait f).length+0≤t
  omega,Nat.zero_le _,h.1.2.2⟩,h.2⟩
theorem uW {t u:Nat}{st:Dm.Ds}(h:Big t u st):Big t (u+1) (Dm.sync st).2:=by
 unfold Dm.sync
 split
 ·exact h.mono (by omega) (by omega)
 ·split
  ·exact(zG h).mono (by omega) (by omega)
  ·exact akb (aeY h)
def frd (e n:Int) (l:List Bm.Ov):List Int:=if Cm.chk e n l=0 then Wl.fr ⟨e,n,l⟩else []
theorem ajv (e n:Int)(v:Value)(l:List Bm.Ov)(w:World)(h:dh w v l)(hf:iL l)(hl:l.length≤140737488355328):
  Calls Tryz.prog 154 #[bK e n v] w fun E w'=>∃vb,E=.returned (.tuple #[vb,.int .i64 (Cm.chk e n l)])∧Own .u8 5 w.heap.size w' vb (frd e n l)∧Below w.heap.size w w':=by
 obtain⟨ao,cap,hv,_,_⟩:=h.shape
 obtain⟨w1,hw1,aT,aj,hB⟩:=ak w #[.int .i64 e,.int .i64 n,v] 35
 have c0:w1.cell? ⟨w.heap.size,0,none⟩=some (.int .i64 e):=ai hB 0 rfl
 have c1:w1.cell? ⟨w.heap.size,1,none⟩=some (.int .i64 n):=ai hB 1 rfl
 have c2:w1.cell? ⟨w.heap.size,2,none⟩=some v:=ai hB 2 rfl
 have HC:=hide (af8 e n v l w1 (h.below aj) hf hl)
 unfold bK at HC⊢
 rw[hv]at hw1 c2 HC⊢
 obtain⟨ch,hch⟩:∃c,Cm.chk e n l=c:=⟨_,rfl⟩
 have KC:=hide hch
 rw[hch]at HC⊢
 clear h hf hl hB hv hch
 go_enter Tryz.func154,Tryz.ntmps154
 go_wp2_with fail
 refine HC.out.mono ?_
 rintro E w2 ⟨vb,rfl,own,au⟩
 have aL:=aj.trans (au.mono aj.size)
 obtain⟨ab,cb,hvb,_,_⟩:=own.is.shape
 by_cases hc0:ch=0
 ·have hz:(Cm.out e n l).length≤430:=Cm.xq e n l
  have HF:=hide (uK (.slice none 0 0) vb [] (Cm.out e n l) w2 (Is.nil _ _) own.is (by simp) (by omega))
  have ea:wN (Cm.out e n l)=0:=by unfold wN;rw[if_pos (by omega)]
  have ed:xK [] (Cm.out e n l)=frd e n l:=by
   unfold xK frd
   rw[if_pos (by omega),if_pos (by rw[KC.out];exact hc0),Cm.jd (by rw[KC.out];exact hc0)]
   rfl
  rw[ea,ed]at HF
  subst hvb
  subst hc0
  clear own aj au ea ed hz HC
  go_wp2_with fail
  refine HF.out.mono ?_
  rintro E w3 ⟨vf,rfl,bD,aD⟩
  obtain⟨af,cf,hvf,_,_⟩:=bD.is.shape
  have O3:=hide (bD.bu (base':=w.heap.size) aL.size)
  have B3:=hide (aL.trans (aD.mono aL.size))
  subst hvf
  clear bD aD aL HF
  go_wp2
  go_ret2
  exact⟨_,rfl,O3.out,B3.out⟩
 ·have ed:frd e n l=[]:=by unfold frd;rw[if_neg (by rw[KC.out];exact hc0)]
  have ED:=hide ed
  have hne:(ch !=0)=true:=by simp[hc0]
  subst hvb
  clear own aj au ed HC
  go_wp2
  go_ret2
  exact⟨_,rfl,by rw[ED.out];exact Own.nil _ _ _ _,aL⟩
theorem zl.put {p q:Nat}{w:World}{l:List Cm.Cv}{bk:Bool}{vc ve:Value}{rs:List Cw}(h:zl p q w l bk vc ve rs)(b:Bool):zl p q (w.setCell ⟨p,1,none⟩ (.bool b)) l b vc ve rs∧Out (fun g=>g=p) w (w.setCell ⟨p,1,none⟩ (.bool b)):=by
 have ho:Out (fun g=>g=p) w (w.setCell ⟨p,1,none⟩ (.bool b)):=Out.aQ (az w ⟨p,1,none⟩ (.bool b)) fun g hg=>by simp at hg;exact hg.symm
 refine⟨⟨by rw[aH h.blk];rfl,h.log.agree fun g hg=>ho.block g (h.log.lt g hg) fun e=>?_⟩,ho⟩
 exact h.log.r.ne h.blk (by decide) (by decide) (by decide) (e▸hg)
theorem WW.flag {p q:Nat}{F:Nat→Prop}{w:World}{s:Wl.Ws}(h:WW p q F w s)(b:Bool):dD p q F w (w.setCell ⟨p,1,none⟩ (.bool b)) ⟨s.d,s.l,b⟩:=by
 obtain⟨F1,G1,h1,h2,rfl⟩:=h
 obtain⟨vc,ve,rs,hv,rfl⟩:=h2
 obtain⟨k1,k2⟩:=hv.put b
 have h2:Wk p q (fun g=>g=p∨LB vc ve rs g) w s.l s.bk:=⟨vc,ve,rs,hv,rfl⟩
 refine⟨_,⟨F1,_,h1.out k2 fun g hg e=>uA h2 h1 g (.inl e) hg,⟨vc,ve,rs,k1,rfl⟩,rfl⟩,k2.mono fun g hg=>.inl (.inr (.inl hg)),fun g hg=>.inl hg⟩
theorem qG (p q:Nat)(F:Nat→Prop)(w:World)(s:Wl.Ws)(h:WW p q F w s):
  Calls Tryz.prog 153 #[.pointer (some ⟨p,0,none⟩)] w fun E w'=>(Wl.ask s=true∧E=.returned (.int .i64 6)∧dD p q F w w' (Wl.brk s))∨(Wl.ask s=false∧E=.returned (.int .i64 0)∧w=w'):=by
 have HF:=hide (h.flag true)
 obtain⟨F1,G1,h1,h2,rfl⟩:=h
 obtain⟨vc,ve,rs,hv,rfl⟩:=h2
 have HM:=hide (oo p q w #[] _ _ _ hv.blk)
 have HO:=hide (afv q F1 w s.d h1)
 have c0:=ai hv.blk 0 rfl
 have c1:=ai hv.blk 1 rfl
 have f1:=aA hv.blk 1
 simp only[List.getElem_toArray,List.getElem_cons_zero,List.getElem_cons_succ]at c0 c1
 unfold Wl.ask
 generalize s.d.on=on at HO⊢
 generalize s.bk=bk at c1⊢
 clear hv h1
 cases bk<;>cases on
 ·go_enter Tryz.func153,Tryz.ntmps153
  go_wp2_with fail
  refine HM.out.mono ?_
  rintro E w1 ⟨rfl,rfl⟩
  go_wp2_with fail
  refine HO.out.mono ?_
  rintro E w1 ⟨rfl,rfl⟩
  go_wp2
  go_ret
  exact .inl ⟨rfl,rfl,HF.out⟩
 ·go_enter Tryz.func153,Tryz.ntmps153
  go_wp2_with fail
  refine HM.out.mono ?_
  rintro E w1 ⟨rfl,rfl⟩
  go_wp2_with fail
  refine HO.out.mono ?_
  rintro E w1 ⟨rfl,rfl⟩
  go_wp2
  go_ret
  exact .inr ⟨rfl,rfl,rfl⟩
 ·go_enter Tryz.func153,Tryz.ntmps153
  go_wp2_with fail
  refine HM.out.mono ?_
  rintro E w1 ⟨rfl,rfl⟩
  go_wp2
  go_ret
  exact .inl ⟨rfl,rfl,HF.out⟩
 ·go_enter Tryz.func153,Tryz.ntmps153
  go_wp2_with fail
  refine HM.out.mono ?_
  rintro E w1 ⟨rfl,rfl⟩
  go_wp2
  go_ret
  exact .inl ⟨rfl,rfl,HF.out⟩
theorem xh (p q:Nat)(F:Nat→Prop)(w:World)(s:Wl.Ws)(e:Int)(h:WW p q F w s):
  Calls Tryz.prog 156 #[.pointer (some ⟨p,0,none⟩),.int .i64 e] w fun E w'=>E=.returned (.int .i64 e)∧dD p q F w w' ⟨s.d,s.l,e==6⟩:=by
 have HF:=hide (h.flag (e==6))
 obtain⟨F1,G1,h1,h2,rfl⟩:=h
 obtain⟨vc,ve,rs,hv,rfl⟩:=h2
 have c1:=ai hv.blk 1 rfl
 have f1:=aA hv.blk 1
 simp only[List.getElem_toArray,List.getElem_cons_zero,List.getElem_cons_succ]at c1
 clear hv h1
 go_enter Tryz.func156,Tryz.ntmps156
 go_wp2
 go_ret
 exact⟨rfl,HF.out⟩
theorem aob (p q:Nat)(F:Nat→Prop)(w:World)(s:Wl.Ws)(h:WW p q F w s):
  Calls Tryz.prog 103 #[.pointer (some ⟨p,0,none⟩)] w fun E w'=>E=.returned (.int .i64 s.l.length)∧w=w':=by
 obtain⟨F1,G1,h1,h2,rfl⟩:=h
 obtain⟨vc,ve,rs,hv,rfl⟩:=h2
 have HM:=hide (oo p q w #[] _ _ _ hv.blk)
 have HE:=hide (jC p 2 w vc rs (ai hv.blk 2 rfl) hv.log.r.row.row)
 rw[hv.log.len]at HE
 clear hv h1
 go_enter Tryz.func103,Tryz.ntmps103
 go_wp2_with fail
 refine HM.out.mono ?_
 rintro E w1 ⟨rfl,rfl⟩
 go_wp2_with fail
 refine HE.out.mono ?_
 rintro E w1 ⟨rfl,rfl⟩
 go_wp2
 go_ret
 exact⟨rfl,rfl⟩
theorem aaU (p q:Nat)(F:Nat→Prop)(w:World)(s:Wl.Ws)(h:WW p q F w s):
  Calls Tryz.prog 60 #[.pointer (some ⟨p,0,none⟩)] w fun E w'=>E=.returned (.int .i64 (Cm.lastE 0 s.l))∧∃m,w'=w.drewN m:=by
 obtain⟨F1,G1,h1,h2,rfl⟩:=h
 obtain⟨vc,ve,rs,hv,rfl⟩:=h2
 have HM:=hide (oo p q w #[] _ _ _ hv.blk)
 have hgl:=eO hv.log.good
 have HE:=hide (aaq p 2 w vc rs (ai hv.blk 2 rfl) hv.log.r.row.row (by rw[hv.log.len];exact hgl))
 rw[hv.log.is]at HE
 clear hv h1
 go_enter Tryz.func60,Tryz.ntmps60
 go_wp2_with fail
 refine HM.out.mono ?_
 rintro E w1 ⟨rfl,rfl⟩
 go_wp2_with fail
 refine HE.out.mono ?_
 rintro E w1 ⟨rfl,m,rfl⟩
 go_wp2
 go_ret
 exact⟨rfl,m,rfl⟩
theorem ak5 (p q:Nat)(w:World)(l:List Cm.Cv)(bk:Bool)(vc ve:Value)(rs:List Cw)(hv:zl p q w l bk vc ve rs):
  Calls Tryz.prog 140 #[.pointer (some ⟨p,0,none⟩)] w fun E w'=>E=.returned (.int .i64 (Wl.aR l).length)∧∃m,w'=w.drewN m:=by
 have HM:=hide (oo p q w #[] _ _ _ hv.blk)
 have hgl:=eO hv.log.good
 have HE:Hid (∀n,Calls Tryz.prog 87 #[.pointer (some ⟨p,2,none⟩)] (w.drewN n) fun E w'=>E=.returned (.int .i64 l.length)∧∃m,w'=(w.drewN n).drewN m):=hide fun n=>by
  have:=jC p 2 (w.drewN n) vc rs (ai hv.blk 2 rfl) (hv.log.r.row.row.below (below_drewN (Below.refl _ _) n))
  rw[hv.log.len]at this
  exact this.mono fun E w' h=>⟨h.1,0,by rw[←h.2];rfl⟩
 have HP:Hid (∀n,Calls Tryz.prog 187 #[.pointer (some ⟨p,2,none⟩),.int .i64 l.length] (w.drewN n) fun E w'=>E=.returned (.int .i64 (Wl.aR l).length)∧∃m,w'=(w.drewN n).drewN m):=hide fun n=>by
  have:=uY p 2 (w.drewN n) ve l l.length (Nat.le_refl _) hgl (ai hv.blk 3 rfl) (hv.log.r.en.is.drewN n)
  rw[List.take_length]at this
  exact this.mono fun E w' h=>⟨h.1,0,by rw[←h.2];rfl⟩
 clear hv
 go_enter Tryz.func140,Tryz.ntmps140
 go_wp2_with fail
 refine HM.out.mono ?_
 rintro E w1 ⟨rfl,rfl⟩
 go_wp2
 go_quiet (first|(go_at_call 87;refine Calls.quiet_of (HE.out _))|(go_at_call 187;refine Calls.quiet_of (HP.out _)))
 go_wp2
 go_ret
 exact⟨rfl,_,rfl⟩
theorem Tryz.aj8:∀args w,(callFunc 237 args).run Tryz.prog w=.ok (.enter 237 args) w:=enters_of Tryz.func237 (by kernel_rfl) rfl
theorem akU (base b o:Nat)(t:TypeId)(cs:Array Value)(w:World)(l:List Cm.Cv)(vc ve:Value)(rs:List Cw)(k:Nat)
  (hB:w.heap[b]? =some (.cells cs t (0,0))) (ho:cs[o]? =some vc) (ho1:cs[o+1]? =some ve) (h1:t≠35) (h2:t≠3) (h3:t≠111) (h:Lw base w l vc ve rs) (hk:k≤l.length):
  Calls Tryz.prog 226 #[.pointer (some ⟨b,o,none⟩),.int .i64 k] w fun E w'=>E=.returned (.tuple #[])∧
   ∃rF qW,w'.heap[b]? =some (.cells ((cs.setIfInBounds o rF).setIfInBounds (o+1) qW) t (0,0))∧Lw base w' (l.take k) rF qW (rs.take k)∧(∀g,LB rF qW (rs.take k) g→LB vc ve rs g)∧Out (fun g=>g=b∨LB vc ve rs g) w w':=by
 have hll:=eO h.good
 have hlen:=h.len
 have Ld:=h.below ((Below.refl w.heap.size w).drew)
 have HE:Hid (Calls Tryz.prog 87 #[.pointer (some ⟨b,o,none⟩)] w.drew fun E w'=>∃v,E=.returned v∧(v=.int .i64 rs.length∧w.drew=w')):=hide ((jC b o w.drew vc rs (ai hB o ho) Ld.r.row.row).mono fun E w' h=>⟨_,h.1,rfl,h.2⟩)
 have HD:Hid (Calls Tryz.prog 237 #[vc,.int .i64 k,.int .i64 rs.length] w.drew fun E w1=>∃v',E=.returned v'∧((w1.cell? ⟨b,o,none⟩=some vc∧w1.frozen? ⟨b,o,none⟩=false)∧(∃a n c,v'=.slice a n c)∧∃U1,w1.setCell ⟨b,o,none⟩ v'=U1∧U1.cell? ⟨b,o+1,none⟩=some ve∧U1.frozen? ⟨b,o+1,none⟩=false∧∃a2 n2 c2 U2,U1.setCell ⟨b,o+1,none⟩ (.slice a2 n2 c2)=U2∧(∀wx,(Instr.slice 109 ve none (some (.int .i64 k)) none).run Tryz.prog wx=.ok (.slice a2 n2 c2) wx)∧
   (U2.heap[b]? =some (.cells ((cs.setIfInBounds o v').setIfInBounds (o+1) (.slice a2 n2 c2)) t (0,0))∧Lw base U2 (l.take k) v' (.slice a2 n2 c2) (rs.take k)∧(∀g,LB v' (.slice a2 n2 c2) (rs.take k) g→LB vc ve rs g)∧Out (fun g=>g=b∨LB vc ve rs g) w U2))):=hide (by
  refine(apG w.drew base vc rs k Ld.r.row (by omega) (by omega)).mono ?_
  rintro E w1 ⟨v',rfl,hr,hout,hob⟩
  obtain⟨hB1,vs,hvs,key⟩:=Ld.cut (o:=o) k hk (w':=w1) hB h1 h2 h3 hr hout hob
  obtain⟨a,c,hv',_⟩:=hr.row.shape
  have yP:(w1.setCell ⟨b,o,none⟩ v').heap[b]? =some (.cells (cs.setIfInBounds o v') t (0,0)):=by rw[aH hB1]
  have ayr:(cs.setIfInBounds o v')[o+1]? =some ve:=by rw[yO _ _ _ _ (by omega)];exact ho1
  obtain⟨a2,n2,c2,azi⟩:∃a n c,vs=.slice a n c:=by
   obtain⟨xa,xc,hve,_,_⟩:=h.r.en.is.shape
   have:=hvs w
   rw[hve,run_slice_h w 109 xa (ends l).length xc Tryz.aqE .i64 _ (by omega) (by rw[nH]at*;omega),Tryz.aqF]at this
   simp[Result.andThen,sliced]at this
   exact⟨_,_,_,this.symm⟩
  subst azi
  have oU:Out (fun g=>g=b) w1 ((w1.setCell ⟨b,o,none⟩ v').setCell ⟨b,o+1,none⟩ (.slice a2 n2 c2)):=Out.aQ (aG (az w1 ⟨b,o,none⟩ v') (az _ ⟨b,o+1,none⟩ _)) fun g hg=>by simp at hg;exact hg.symm
  obtain⟨k1,k2,k3⟩:=key _ (by rw[aH yP]) oU
  refine⟨v',rfl,⟨ai hB1 o ho,aA hB1 o⟩,⟨a,_,c,hv'⟩,_,rfl,ai yP (o+1) ayr,aA yP (o+1),a2,n2,c2,_,rfl,hvs,?_,k1,k2,(Out.of_below (F:=fun g=>g=b∨LB vc ve rs g) ((Below.refl w.heap.size w).drew)).trans k3 fun g hg=>.inl hg⟩
  rw[aH yP])
 have c0:=ai hB o ho
 obtain⟨ca,cc,mX,_,_⟩:=h.r.row.row.shape
 obtain⟨ea,ec,hve,_,_⟩:=h.r.en.is.shape
 subst mX hve
 clear hB ho ho1 h1 h2 h3 h hk hll hlen Ld
 go_enter Tryz.func226,Tryz.ntmps226
 go_wp2_with fail
 go_region_law (first
  |(refine qf rfl 87 #[.tmp 10] #[179] rfl Tryz.afT #[.pointer (some ⟨b,o,none⟩)] (by first|(simp[Act.eval];done)|(simp[Act.eval,Act.put];done)) HE.out ?_;rintro _ _ ⟨rfl,rfl⟩)
  |(refine qf rfl 237 #[.tmp 8,.tmp 9,.tmp 11] #[22,3,3] rfl Tryz.aj8 #[.slice ca rs.length cc,.int .i64 k,.int .i64 rs.length] (by first|(simp[Act.eval];done)|(simp[Act.eval,Act.put];done)) HD.out ?_;rintro v7 w7 ⟨⟨d7,g7⟩,⟨a7,n7,k7,rfl⟩,U1,hU1,d8,g8,a2,n2,c2,U2,hU2,hsl,J⟩;have J:=hide J))
 all_goals
  go_wp2
  go_end0
  exact⟨rfl,_,_,J.out⟩
end Go.Proofs.YtmngcecomcadkaaGreatDoor
namespace Go.Proofs.YtmngcecomcadkaaGreatDoor
open Go.RowKit Go.Shelf
set_option linter.unusedVariables false
attribute [local go_sem] Oper.semAt_some
theorem oQ (p:Nat)(F:Nat→Prop)(w:World)(st:Dm.Ds)(file:Int)(vb:Value)(bs:List Int)(h:Pk p F w st)(hb:Is .u8 w vb bs)(hbF:0<bs.length→∀b,vb.ownBlock=some b→¬F b)(hLm:bs.length≤1000000)
  (hw:st.wait.length+cnt bs.length≤1000000) (hl:st.left≤9223372036854775807) (hc:st.count+cnt bs.length<9223372036854775807):
  Calls Tryz.prog 44 #[.pointer (some ⟨p,0,none⟩),.int .i64 file,vb] w fun E w'=>E=.returned (.int .i64 (Dm.write st file bs).1)∧aV p F w w' (Dm.write st file bs).2:=by
 unfold Dm.write
 obtain⟨w1,hw1,aT,aj,B1⟩:=ak w #[.pointer (some ⟨p,0,none⟩)] 39
 obtain⟨w2,hw2,dz,au,B2⟩:=ak w1 #[.int .i64 file] 3
 obtain⟨w3,hw3,cB,aD,B3⟩:=ak w2 #[.int .i64 0] 29
 rw[aT]at B2 au
 rw[show w2.heap.size=w.heap.size+2 by omega]at B3 aD
 have aY:Below w.heap.size w w3:=(aj.trans (au.mono (by omega))).trans (aD.mono (by omega))
 have HR:=hide (kS p F w3 st (h.below aY))
 have HF:=hide (mK file w3)
 have HK:=hide h
 replace dz:w2.heap.size=w.heap.size+2:=by omega
 replace cB:w3.heap.size=w.heap.size+3:=by omega
 have C0:w3.cell? ⟨w.heap.size,0,none⟩=some (.pointer (some ⟨p,0,none⟩)):=by
  have e1:=(au.block w.heap.size (by omega)).trans B1
  exact ai ((aD.block w.heap.size (by omega)).trans e1) 0 rfl
 have C1:w3.cell? ⟨w.heap.size+1,0,none⟩=some (.int .i64 file):=ai ((aD.block (w.heap.size+1) (by omega)).trans B2) 0 rfl
 have C2:w3.cell? ⟨w.heap.size+2,0,none⟩=some (.int .i64 0):=ai B3 0 rfl
 have f2:=aA B3 0
 have hend:∀e:Int,Below w.heap.size w (w3.setCell ⟨w.heap.size+2,0,none⟩ (.int .i64 e))∧(w3.setCell ⟨w.heap.size+2,0,none⟩ (.int .i64 e)).cell? ⟨w.heap.size+2,0,none⟩=some (.int .i64 e):=fun e=>
  ⟨aY.grown (az w3 ⟨w.heap.size+2,0,none⟩ _) (by omega) fun k hk=>by simp at hk;omega,ai (aH B3 0 (.int .i64 e)) 0 (by simp)⟩
 have HE:=hide hend
 cases hon:st.on
 ·rw[if_pos rfl]
  have hk:=tC hon
  clear h hon hend B1 B2 B3
  refine(callsIn_wide (n:=6)).1 ?_
  refine callsIn_of_wp_marks Tryz.func44 rfl trivial ?_ rfl
  simp only[Tryz.ntmps44,List.size_toArray,List.length_cons,List.length_nil,Nat.reduceAdd,Nat.reduceSub,Array.replicate_succ,Array.replicate_zero,List.push_toArray,List.append_toArray,List.nil_append,List.cons_append]
  gi_wp2_with fail
  refine⟨trivial,(callsIn_wide.2 HR.out).mono ?_⟩
  rintro E w' ⟨rfl,rfl⟩
  rw[hk]
  gi_wp2
  obtain⟨b6,c6⟩:=HE.out 6
  refine⟨.int .i64 6,?_,rfl,aV.same HK.out b6⟩
  simp[results,Tryz.results44,go_sem,c6]
 ·rw[if_neg (by simp)]
  have hk:=sI hon
  cases hin:Dm.iW file
  ·rw[if_pos rfl]
   rw[hin]at HF
   clear h hon hend B1 B2 B3 hin
   refine(callsIn_wide (n:=6)).1 ?_
   refine callsIn_of_wp_marks Tryz.func44 rfl trivial ?_ rfl
   simp only[Tryz.ntmps44,List.size_toArray,List.length_cons,List.length_nil,Nat.reduceAdd,Nat.reduceSub,Array.replicate_succ,Array.replicate_zero,List.push_toArray,List.append_toArray,List.nil_append,List.cons_append]
   gi_wp2_with fail
   refine⟨trivial,(callsIn_wide.2 HR.out).mono ?_⟩
   rintro E w' ⟨rfl,rfl⟩
   rw[hk]
   gi_wp2_with fail
   refine⟨trivial,(callsIn_wide.2 HF.out).mono ?_⟩
   rintro E w' ⟨rfl,rfl⟩
   gi_wp2
   obtain⟨b6,c6⟩:=HE.out 2
   refine⟨.int .i64 2,?_,rfl,aV.same HK.out b6⟩
   simp[results,Tryz.results44,go_sem,c6]
  ·rw[if_neg (by simp)]
   obtain⟨f,hf,rfl⟩:=yz hin
   rw[Int.toNat_natCast,aaJ]
   exact arN p F w st f hf vb bs h hon hb hbF hLm hw hl hc
end Go.Proofs.YtmngcecomcadkaaGreatDoor
namespace Go.Proofs.YtmngcecomcadkaaGreatDoor
open Go.RowKit
set_option linter.unusedVariables false
theorem axC {st:Dm.Ds}{n:Nat}(ho:st.on=true)(hn:n≤(Wl.hld st).length):(Dm.cK st 0 n).1=0∨(Dm.cK st 0 n).1=6:=by
 unfold Dm.cK
 rw[if_neg (by simp[ho]),if_neg (by decide),if_neg ?_]
 ·split
  ·exact .inr rfl
  ·exact .inl rfl
 ·unfold Wl.hld at hn
  simp
  omega
theorem aeQ (st:Dm.Ds):(Dm.sync st).1=0∨(Dm.sync st).1=6:=by
 unfold Dm.sync
 split
 ·exact .inr rfl
 split
 ·exact .inr rfl
 ·exact .inl rfl
theorem aqW:∀(n:Nat) (st:Dm.Ds) (bs:List Int),(Dm.wrt 0 n st bs).1=0∨(Dm.wrt 0 n st bs).1=6
 |0,_,_=>.inl rfl
 |n+1,st,bs=>by
  unfold Dm.wrt
  split
  ·exact .inl rfl
  split
  ·exact .inr rfl
  ·exact aqW n _ _
theorem agD {st:Dm.Ds}(bs:List Int):(Dm.write st 0 bs).1=0∨(Dm.write st 0 bs).1=6:=by
 unfold Dm.write
 split
 ·exact .inr rfl
 rw[if_neg (by decide)]
 exact aqW _ _ _
def aeX (s:Wl.Ws):Prop:=Big 90000000 700000 s.d
theorem aeX.big {s:Wl.Ws}(h:aeX s):Big 100000000 800000 s.d:=Big.mono h (by decide) (by decide)
theorem acf (p q:Nat)(F:Nat→Prop)(w:World)(s:Wl.Ws)(h:WW p q F w s)(hs:aeX s):
  Calls Tryz.prog 114 #[.pointer (some ⟨p,0,none⟩)] w fun E w'=>E=.returned (.int .i64 (Wl.rY s).1)∧dD p q F w w' (Wl.rY s).2:=by
 have HR:=hide (qG p q F w s h)
 have HH:=hide h
 have hb:=hs.big
 unfold Wl.rY
 cases ha:Wl.ask s with
 |true=>
  simp only[if_true]
  clear h hs
  go_enter Tryz.func114,Tryz.ntmps114
  go_wp2_with fail
  refine HR.out.mono ?_
  rintro E w1 (⟨_,rfl,J⟩|⟨h0,_⟩)
  ·have J:=hide J
   go_wp2
   go_ret
   exact⟨rfl,J.out⟩
  ·rw[ha]at h0
   cases h0
 |false=>
  simp only[Bool.false_eq_true,if_false]
  obtain⟨F1,G1,h1,h2,rfl⟩:=h
  have HS:=hide (uX q F1 w s.d h1 (fun f=>Nat.le_trans (hb.1.1 f) (by decide)) (Nat.le_trans hb.1.2.1 (by decide)) hb.2 (Nat.lt_of_le_of_lt hb.1.2.2 (by decide)))
  obtain⟨vc,ve,rs,hv,rfl⟩:=h2
  have c0:w.cell? ⟨p,0,none⟩=some (.pointer (some ⟨q,0,none⟩)):=ai hv.blk 0 rfl
  have h2:Hid (Wk p q (fun g=>g=p∨LB vc ve rs g) w s.l s.bk):=hide ⟨vc,ve,rs,hv,rfl⟩
  have H1:=hide h1
  have e01:=aeQ s.d
  have HD:Hid (∀x:Int,(x=0∨x=6)→(x==6)=decide (x≠0)):=hide (fun x hx=>by rcases hx with rfl|rfl<;>rfl)
  clear h1 hs hb hv
  go_enter Tryz.func114,Tryz.ntmps114
  go_wp2_with fail
  refine HR.out.mono ?_
  rintro E w1 (⟨h0,_⟩|⟨_,rfl,rfl⟩)
  ·rw[ha]at h0
   cases h0
  clear HR
  go_wp2_with fail
  refine HS.out.mono ?_
  rintro E w2 ⟨rfl,PS⟩
  obtain⟨F2,k1,k2,k3,k4⟩:=WW.disk H1.out h2.out PS
  have HE:=hide (xh p q _ w2 ⟨(Dm.sync s.d).2,s.l,s.bk⟩ (Dm.sync s.d).1 ⟨F2,_,k1,k2,rfl⟩)
  simp only at HE
  rw[HD.out _ e01]at HE
  have K3:=hide k3
  have K4:=hide k4
  clear PS k1 k2 k3 k4 HS h2 H1 HD
  go_wp2_with fail
  refine HE.out.mono ?_
  rintro E w3 ⟨rfl,J⟩
  have J:=hide (dD.trans (K3.out.mono fun g hg=>.inl (Or.inl hg)) (fun g hg=>by
   rcases hg with hg|hg
   ·rcases K4.out g hg with e|e
    ·exact .inl (.inl e)
    ·exact .inr e
   ·exact .inl (.inr hg)) J)
  go_wp2
  go_ret
  exact⟨rfl,J.out⟩
theorem afM (p q:Nat)(F:Nat→Prop)(w:World)(st:Dm.Ds)(h:Pk q F w st)(hs:Big 90000000 700000 st)(hp:w.cell? ⟨p,0,none⟩=some (.pointer (some ⟨q,0,none⟩)))(ho:st.on=true):
  Calls Tryz.prog 109 #[.pointer (some ⟨p,0,none⟩)] w fun E w'=>∃ss,E=.returned (.int .i64 (Orp.secs ss).length)∧Hid (Orp.Sn 0 (Rst.hf 3 st) ss)∧Below w.heap.size w w':=by
 have hr:lI st 3=Rst.hf 3 st:=by unfold lI;rw[if_neg (by simp[ho]),if_neg (by decide)];rfl
 have hl:(Rst.hf 3 st).length≤1000000000:=by
  have:=Dm.lH st.wait (st.sure 3) 3
  have:=hs.1.1 3
  unfold Rst.hf
  omega
 have R1:=hide (ji q F w st 3 h (fun f=>Nat.le_trans (hs.1.1 f) (by decide)) (Nat.le_trans hs.1.2.1 (by decide)))
 have HR:=hide hr
 clear h hs hr
 go_enter Tryz.func109,Tryz.ntmps109
 go_wp2_with fail
 refine R1.out.mono ?_
 rintro E w1 ⟨v,rfl,O1,B1⟩
 rw[HR.out]at O1
 have S1:=hide (mQ v _ w1 O1.is hl)
 have B1:=hide B1
 clear R1 O1
 go_wp2_with fail
 refine S1.out.mono ?_
 rintro E w2 ⟨v2,l,n,rfl,X⟩
 have X:=hide (show ∃ss,(n:Int)=((Orp.secs ss).length:Int)∧Hid (Orp.Sn 0 (Rst.hf 3 st) ss)∧Below w.heap.size w w2 from⟨iq l,by rw[X.out.2.2.1],hide X.out.2.2.2.1,B1.out.trans (X.out.2.2.2.2.mono B1.out.size)⟩)
 clear S1
 go_wp2
 go_ret
 obtain⟨ss,x1,x2,x3⟩:=X.out
 exact⟨ss,by rw[x1];rfl,x2,x3⟩
end Go.Proofs.YtmngcecomcadkaaGreatDoor
namespace Go.Proofs.YtmngcecomcadkaaGreatDoor
set_option linter.unusedVariables false
theorem agQ {t u:Nat}{st:Dm.Ds}(h:Big t u st)(s:Orp.Se):Big (t+(Orp.sec s).length) (u+cnt (Orp.sec s).length+1) (Orp.wr2 st s).2:=by
 have h1:=ku h 3 (Orp.sec s)
 have h2:=uW h1
 unfold Orp.wr2
 split
 ·exact h1.mono (Nat.le_refl _) (by omega)
 ·split
  ·exact h2
  ·exact h2
theorem arp {t u:Nat}{st:Dm.Ds}(h:Big t u st)(base:Int)(s:Orp.Se):Big (t+(Orp.sec s).length) (u+cnt (Orp.sec s).length+2) (Orp.qy st base s).2:=by
 have h1:=sS h 3 base
 unfold Orp.qy
 split
 ·split
  ·exact h1.mono (by omega) (by omega)
  ·exact(agQ h1 s).mono (Nat.le_refl _) (by omega)
 ·exact(agQ h s).mono (Nat.le_refl _) (by omega)
theorem arv {t u:Nat}{st:Dm.Ds}(h:Big t u st)(base:Int)(s:Orp.Se):Big (t+(Orp.sec s).length) (u+cnt (Orp.sec s).length+2) (Orp.dX st base s).2:=by
 unfold Orp.dX
 split
 ·exact h.mono (by omega) (by omega)
 ·split
  ·exact h.mono (by omega) (by omega)
  ·split
   ·exact h.mono (by omega) (by omega)
   ·exact arp h base s
end Go.Proofs.YtmngcecomcadkaaGreatDoor

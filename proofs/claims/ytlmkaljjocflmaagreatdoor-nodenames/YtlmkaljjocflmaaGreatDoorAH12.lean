/- Texts of one layer, one behind the other. -/
import Derived.Test.YtlmkaljjocflmaaGreatDoorAZPh
import Derived.Test.YtlmkaljjocflmaaGreatDoorAH8
import Derived.Test.YtlmkaljjocflmaaGreatDoorAH10
import Derived.Test.YtlmkaljjocflmaaGreatDoorAH4
import Derived.Test.YtlmkaljjocflmaaGreatDoorAH2
import Derived.Test.YtlmkaljjocflmaaGreatDoorAH11
import Derived.BigQuiet
import Derived.Test.YtlmkaljjocflmaaGreatDoorAM2
import Derived.Test.YtlmkaljjocflmaaGreatDoorAH13
import Derived.Test.YtlmkaljjocflmaaGreatDoorAH6
set_option maxRecDepth 100000
set_option maxHeartbeats 8000000
namespace Go.Proofs.YtlmkaljjocflmaaGreatDoor
open Go.RowKit Go.Shelf
set_option linter.unusedVariables false
attribute [local go_sem] Oper.semAt_some
def wgo (file:Nat):Dm.Ds→List (List Int)→Int×Dm.Ds
 |st,[]=>(0,st)
 |st,c::cs=>if Dm.off st then(6,Dm.jq st)else wgo file (Dm.push (Dm.dh st) ⟨file,false,0,c⟩) cs
theorem ajW (file:Nat):∀(cs:List (List Int)) (st:Dm.Ds),(wgo file st cs).1=0∨(wgo file st cs).1=6
 |[],_=>.inl rfl
 |c::cs,st=>by
  rw[wgo]
  split
  ·exact .inr rfl
  ·exact ajW file cs _
theorem aev (file:Nat):∀(a:List (List Int)) (b:List (List Int)) (st:Dm.Ds),(wgo file st a).1=6→wgo file st (a++b)=wgo file st a
 |[],b,st,h=>by simp[wgo]at h
 |c::a,b,st,h=>by
  rw[List.cons_append,wgo]
  rw[wgo]at h⊢
  split
  ·rfl
  ·rename_i ho
   rw[if_neg ho]at h
   exact aev file a b _ h
theorem ad9 (file:Nat)(c:List Int):∀(a:List (List Int)) (st:Dm.Ds),(wgo file st a).1=0→wgo file st (a++[c])=if Dm.off (wgo file st a).2 then(6,Dm.jq (wgo file st a).2)else(0,Dm.push (Dm.dh (wgo file st a).2) ⟨file,false,0,c⟩)
 |[],st,h=>rfl
 |d::a,st,h=>by
  rw[List.cons_append,wgo]
  rw[wgo]at h⊢
  split
  ·rename_i ho
   rw[if_pos ho]at h
   simp at h
  ·rename_i ho
   rw[if_neg ho]at h
   exact ad9 file c a _ h
theorem afz (file:Nat):∀(a:List (List Int)) (st:Dm.Ds),(wgo file st a).2.wait.length≤st.wait.length+a.length∧(wgo file st a).2.count≤st.count+a.length∧(wgo file st a).2.left≤st.left
 |[],st=>by simp[wgo]
 |c::a,st=>by
  rw[wgo]
  split
  ·simp[Dm.jq]
  ·obtain⟨h1,h2,h3⟩:=afz file a (Dm.push (Dm.dh st) ⟨file,false,0,c⟩)
   have e1:(Dm.push (Dm.dh st) ⟨file,false,0,c⟩).wait.length=st.wait.length+1:=by simp[Dm.push,Dm.dh]
   have e2:(Dm.push (Dm.dh st) ⟨file,false,0,c⟩).count=st.count+1:=rfl
   have e3:(Dm.push (Dm.dh st) ⟨file,false,0,c⟩).left≤st.left:=by simp only[Dm.push,Dm.dh];split<;>omega
   rw[List.length_cons]
   refine⟨by omega,by omega,by omega⟩
def pieces:Nat→List Int→List (List Int)
 |0,_=>[]
 |n+1,bs=>if bs=[]then []else bs.take 64::pieces n (bs.drop 64)
theorem aaL (file:Nat):∀(n:Nat) (st:Dm.Ds) (bs:List Int),Dm.wrt file n st bs=wgo file st (pieces n bs)
 |0,st,bs=>rfl
 |n+1,st,bs=>by
  rw[Dm.wrt,pieces]
  by_cases h:bs=[]
  ·rw[if_pos h,if_pos h];rfl
  ·rw[if_neg h,if_neg h,wgo]
   split
   ·rfl
   ·exact aaL file n _ _
def ck (bs:List Int) (i:Nat):List Int:=(bs.drop (i*64)).take 64
theorem uT:∀(n:Nat) (bs:List Int),bs.length≤n→pieces n bs=(List.range (cnt bs.length)).map (ck bs)
 |0,bs,h=>by
  have:bs.length=0:=by omega
  rw[this]
  rfl
 |n+1,bs,h=>by
  rw[pieces]
  by_cases hb:bs=[]
  ·subst hb;rfl
  ·rw[if_neg hb]
   have h1:0<bs.length:=List.length_pos_iff.2 hb
   have e:cnt bs.length=cnt (bs.drop 64).length+1:=by rw[List.length_drop];unfold cnt;omega
   rw[e,List.range_succ_eq_map,List.map_cons,List.map_map,uT n (bs.drop 64) (by rw[List.length_drop];omega)]
   congr 1
   apply List.map_congr_left
   intro i _
   simp only[ck,Function.comp,List.drop_drop]
   congr 2
   omega
theorem akr (L:Nat)(f:Nat→List Int):∀k,k≤cnt L→(up L k).map (fun x=>f x.1)=(List.range k).map f
 |0,_=>rfl
 |k+1,h=>by
  have h1:k*64<L:=by unfold cnt at h;omega
  rw[oD L k h1,List.map_append,akr L f k (by omega),List.range_succ,List.map_append]
  rfl
def jD (bs:List Int) {L:Nat} (pre:List (Cx L)):List (List Int):=pre.map fun x=>ck bs x.1
theorem amx (bs:List Int){L:Nat}(pre:List (Cx L))(x:Cx L):jD bs (pre++[x])=jD bs pre++[ck bs x.1]:=by simp[jD]
theorem abb (bs:List Int):jD bs (up bs.length (cnt bs.length))=pieces bs.length bs:=by
 unfold jD
 rw[akr _ _ _ (Nat.le_refl _),uT _ _ (Nat.le_refl _)]
theorem aiZ (L k:Nat):∀j,∃r,up L (k+j)=up L k++r
 |0=>⟨[],by simp⟩
 |j+1=>by
  obtain⟨r,hr⟩:=aiZ L k j
  exact⟨r++(if h:(k+j)*64<L then [⟨k+j,h⟩]else []),by rw[←Nat.add_assoc,up,hr,List.append_assoc]⟩
theorem uG (bs:List Int)(i:Nat):(ck bs i).length=min 64 (bs.length-i*64):=by simp[ck]
theorem avS {W:World}{b off cap:Nat}{bs:List Int}(h:Is .u8 W (.slice (some ⟨b,off,none⟩) bs.length cap) bs)(i:Nat)(hi:i*64<bs.length):Is .u8 W (vD b off bs.length i) (ck bs i):=by
 have hs:=h.sub (i*64) (i*64+min 64 (bs.length-i*64)) (by omega) (by omega)
 have e1:i*64+min 64 (bs.length-i*64)-i*64=min 64 (bs.length-i*64):=by omega
 rw[e1]at hs
 have e2:(bs.drop (i*64)).take (min 64 (bs.length-i*64))=ck bs i:=by
  unfold ck
  by_cases h1:64≤bs.length-i*64
  ·rw[Nat.min_eq_left h1]
  ·rw[Nat.min_eq_right (by omega),List.take_of_length_le (by rw[List.length_drop];omega),List.take_of_length_le (by rw[List.length_drop];omega)]
 rw[e2]at hs
 obtain⟨b',off',cap',hv,h1,h2,_,hc⟩:=hs.full (by rw[uG];omega)
 simp only[Value.slice.injEq,Option.some.injEq,Addr.mk.injEq,and_true]at hv
 obtain⟨⟨rfl,rfl⟩,hl,rfl⟩:=hv
 refine⟨hs.1,.inr ⟨⟨b,off+i*64,none⟩,min 64 (bs.length-i*64),by rw[uG];rfl,by rw[uG];exact Nat.le_refl _,by unfold maxLen;omega,fun j hj=>?_⟩⟩
 rw[gq]
 exact hc j hj
theorem KeepsOthers.aua {F:Nat→Prop}{W W':World}(h:Out F W W')(hc:∀g,F g→∃cs t fr,W.heap[g]? =some (.cells cs t fr)):KeepsOthers W W':=
 ⟨h.size,fun k o hk ho=>by
  refine(h.block k (Array.getElem?_eq_some_iff.1 hk).1 fun hF=>?_).trans hk
  obtain⟨cs,t,fr,h1⟩:=hc k hF
  rw[hk]at h1
  cases h1
  simp[Obj.isCells]at ho⟩
def WI (p:Nat) (F:Nat→Prop) (W0:World) (st:Dm.Ds) (f:Nat) (bs:List Int) (e:Int) (G:Nat→Prop) (pre:List (Cx bs.length)) (W:World):Prop:=
 ∃F',Pk p F' W (wgo f st (jD bs pre)).2∧(wgo f st (jD bs pre)).1=e∧Out G W0 W∧∀g,F' g→F g∨W0.heap.size≤g
theorem WI.own {p:Nat}{F:Nat→Prop}{W0:World}{st:Dm.Ds}{f:Nat}{bs:List Int}{e:Int}{G:Nat→Prop}:OwnFrom W0.heap.size (WI p F W0 st f bs e G):=by
 rintro s W W' row ⟨F',hP,he,hO,hs⟩ hg hr
 refine⟨F',hP.agree fun g hgF=>?_,he,?_,hs⟩
 ·refine hg.block g (hP.lt g hgF) fun e1=>?_
  obtain⟨_,o,ho,hoc⟩:=hr g e1.symm
  obtain⟨cs,t,fr,h1⟩:=hP.cel g hgF
  rw[ho]at h1
  cases h1
  simp[Obj.isCells]at hoc
 ·exact hO.trans (Out.aP (F:=fun g=>row=some g) hg fun g h=>h) fun g h=>.inr (hr g h).1
theorem afS {W W':World}(h:Below W.heap.size W W'):KeepsOthers W W':=⟨h.size,fun k o hk ho=>(h.block k (Array.getElem?_eq_some_iff.1 hk).1).trans hk⟩
theorem amj (p:Nat)(F:Nat→Prop)(W0:World)(st:Dm.Ds)(f:Nat)(hf:f<4)(bs:List Int)(hF:∀g,F g→g<W0.heap.size)(pre:List (Cx bs.length))(x:Cx bs.length)(W:World)(hI:WI p F W0 st f bs 0 F pre W)(hlt:pre.length<cnt bs.length)
  (hw:st.wait.length+cnt bs.length≤1000000) (hl:st.left≤9223372036854775807) (hc:st.count+cnt bs.length<9223372036854775807) (v1:Value) (w1:World) (aZ:Own .u8 5 W.heap.size w1 v1 (ck bs x.1)) (ak:Below W.heap.size W w1):
  Calls Tryz.prog 148 #[.pointer (some ⟨p,0,none⟩),.agg #[.int .i64 0,.int .i64 f,v1,.int .i64 0]] w1 fun E w2=>E=.returned (.int .i64 (wgo f st (jD bs (pre++[x]))).1)∧WI p F W0 st f bs (wgo f st (jD bs (pre++[x]))).1 F (pre++[x]) w2∧KeepsOthers W w2∧∀B,B<W0.heap.size→¬F B→w2.heap[B]? =W.heap[B]? :=by
 obtain⟨F',hP,he,hO,hs⟩:=hI
 obtain⟨z1,z2,z3⟩:=afz f (jD bs pre) st
 have hcl:(jD bs pre).length=pre.length:=by simp[jD]
 have hx:=x.2
 have hcx:=uG bs x.1
 refine(ah4 p F' w1 _ ⟨f,false,0,v1,ck bs x.1⟩ (hP.below ak) ⟨aZ.is,fun b hb=>⟨trivial,by obtain⟨cs,h1⟩:=aZ.type hb;exact⟨cs,_,h1⟩⟩⟩ (fun b hb hFb=>by have h1:=(aZ.block b hb).1;have h2:=hP.lt b hFb;omega) ⟨hf,fun h=>by simp[Rv.r]at h,fun _=>by show 1≤(ck bs x.1).length∧(ck bs x.1).length≤64;omega⟩ (by omega) (by omega) (by omega)).mono ?_
 rintro E w2 ⟨rfl,F2,h1,h2,h3⟩
 have hsn:=ad9 f (ck bs x.1) (jD bs pre) st he
 rw[←amx,agl]at hsn
 have e1:(wgo f st (jD bs (pre++[x]))).1=if Dm.off (wgo f st (jD bs pre)).2 then 6 else 0:=by rw[hsn]
 have e2:(wgo f st (jD bs (pre++[x]))).2=if Dm.off (wgo f st (jD bs pre)).2 then Dm.jq (wgo f st (jD bs pre)).2 else Dm.push (Dm.dh (wgo f st (jD bs pre)).2) ⟨f,false,0,ck bs x.1⟩:=by rw[hsn]
 have hO1:Out F W0 w1:=hO.trans (Out.of_below (F:=F) ak) fun g hg=>.inl hg
 refine⟨by rw[e1],⟨F2,by rw[e2];exact h1,rfl,hO1.trans h2 hs,fun g hg=>?_⟩,(afS ak).trans (KeepsOthers.aua h2 (hP.below ak).cel),fun B hB hFB=>?_⟩
 ·rcases h3 g hg with h|h|h
  ·exact hs g h
  ·exact .inr (Nat.le_trans hO1.size h)
  ·exact .inr (Nat.le_trans hO.size (aZ.block g h).1)
 ·refine(h2.block B (Nat.lt_of_lt_of_le hB hO1.size) fun h=>?_).trans (ak.block B (Nat.lt_of_lt_of_le hB hO.size))
  rcases hs B h with h4|h4
  ·exact hFB h4
  ·omega
theorem Tryz.mixed:Tryz.prog.follows .mixedOrders=true:=by kernel_rfl
theorem akC (n:Nat)(hn:1≤n)(Bs Bn b off cap:Nat)(bs:List Int)(sv:Value)(hsv:sv=.slice (some ⟨b,off,none⟩) bs.length cap∨(bs.length=0∧∃ao c,sv=.slice ao 0 c))(hcap:bs.length≤cap)(hcm:cap≤maxLen)(vG:bs.length≤140737488355328)(w:World)(hs:Bs<w.heap.size)(hb:Bn<w.heap.size)(cs:w.cell? ⟨Bs,0,none⟩=some sv)(cn:w.cell? ⟨Bn,0,none⟩=some (.int .i64 64)):
  SeqStopsK Fence.wide n Tryz.prog 205 #[.pointer (some ⟨Bs,0,none⟩),.pointer (some ⟨Bn,0,none⟩)] (fun x:Cx bs.length=>#[vD b off bs.length x.1]) (Kc Bs Bn) (fun xs=>xs=up bs.length (cnt bs.length)) (fun pre=>∃k,k≤cnt bs.length∧pre=up bs.length k) (cnt bs.length) w:=fun l J Jx W hW hJ hJx hY h0=>
 alk n hn l Bs Bn b off bs.length cap sv hsv hcap hcm vG J Jx W hJ hY ((hW.cell (p:=⟨Bs,0,none⟩) hs).trans cs) ((hW.cell (p:=⟨Bn,0,none⟩) hb).trans cn) h0
theorem awx {Bs Bn:Nat}{w:World}(h1:Bs<w.heap.size)(h2:Bn<w.heap.size)(W:World)(l:Nat)(o o':Obj)(hl:w.heap.size≤l)(h:W.heap[l]? =some o)(_:o.isCells=false)(_:o.isWalk=false):Kc Bs Bn W (W.putObj l o'):=
 ⟨World.putObj_heap_other (by omega),World.putObj_heap_other (by omega)⟩
theorem abW {p:Nat}{F:Nat→Prop}{w W0 W:World}{st:Dm.Ds}{f:Nat}{bs:List Int}{e:Int}{pre:List (Cx bs.length)}{G:Nat→Prop}(aK:Below w.heap.size w W0)(hF:∀g,F g→g<w.heap.size)(hG:∀g,G g→F g∨w.heap.size≤g)(h:WI p F W0 st f bs e G pre W){W2:World}(F2:Nat→Prop)(hO:Out F2 W W2)(hF2:∀g,F2 g→w.heap.size≤g)(hF3:∀g,F2 g→W0.heap.size≤g→∃o:Obj,W.heap[g]? =some o∧o.isCells=false):
  bT p F w W2 (wgo f st (jD bs pre)).2:=by
 obtain⟨F',hP,he,hO1,hs⟩:=h
 refine⟨F',hP.agree fun g hg=>hO.block g (hP.lt g hg) fun h2=>?_,?_,fun g hg=>?_⟩
 ·rcases hs g hg with h3|h3
  ·have:=hF g h3;have:=hF2 g h2;omega
  ·obtain⟨o,h4,h5⟩:=hF3 g h2 h3
   obtain⟨cs,t,fr,h6⟩:=hP.cel g hg
   rw[h4]at h6
   cases h6
   simp[Obj.isCells]at h5
 ·have q1:Out F w W:=(Out.of_below (F:=F) aK).trans hO1 hG
  exact q1.trans hO fun g hg=>.inr (hF2 g hg)
 ·rcases hs g hg with h3|h3
  ·exact .inl h3
  ·exact .inr (Nat.le_trans aK.size h3)
theorem aq8 (p:Nat)(F:Nat→Prop)(w:World)(st:Dm.Ds)(f:Nat)(hf:f<4)(vb:Value)(bs:List Int)(h:Pk p F w st)(hon:st.on=true)(hb:Is .u8 w vb bs)(hbF:0<bs.length→∀b,vb.ownBlock=some b→¬F b)(vG:bs.length≤1000000)
  (hw:st.wait.length+cnt bs.length≤1000000) (hl:st.left≤9223372036854775807) (hc:st.count+cnt bs.length<9223372036854775807):
  Calls Tryz.prog 70 #[.pointer (some ⟨p,0,none⟩),.int .i64 f,vb] w fun E w'=>E=.returned (.int .i64 (wgo f st (pieces bs.length bs)).1)∧bT p F w w' (wgo f st (pieces bs.length bs)).2:=by
 obtain⟨b,off,cap,hsv,hcap,hcm⟩:∃b off cap,(vb=.slice (some ⟨b,off,none⟩) bs.length cap∨(bs.length=0∧∃ao c,vb=.slice ao 0 c))∧bs.length≤cap∧cap≤maxLen:=by
  by_cases h0:0<bs.length
  ·obtain⟨b,off,cap,h1,h2,h3,_⟩:=hb.full h0
   exact⟨b,off,cap,.inl h1,h2,h3⟩
  ·obtain⟨ao,cap,h1,h2,h3⟩:=hb.shape
   have h4:bs.length=0:=by omega
   exact⟨0,0,cap,.inr ⟨h4,ao,cap,by rw[h1,h4]⟩,h2,h3⟩
 obtain⟨w1,hw1,aT,ak,B1⟩:=au w #[.pointer (some ⟨p,0,none⟩)] 39
 obtain⟨w2,hw2,dm,az,B2⟩:=au w1 #[.int .i64 f] 3
 obtain⟨w3,hw3,bJ,aC,B3⟩:=au w2 #[.int .i64 0] 29
 obtain⟨w4,hw4,iE,aL,B4⟩:=au w3 #[vb] 61
 obtain⟨W0,gM,lU,aQ,B5⟩:=au w4 #[.int .i64 64] 3
 rw[aT]at B2 az
 rw[show w2.heap.size=w.heap.size+2 by omega]at B3 aC
 rw[show w3.heap.size=w.heap.size+3 by omega]at B4 aL
 rw[show w4.heap.size=w.heap.size+4 by omega]at B5 aQ
 have aW:Below w.heap.size w w3:=(ak.trans (az.mono (by omega))).trans (aC.mono (by omega))
 have cZ:Below w.heap.size w W0:=(aW.trans (aL.mono (by omega))).trans (aQ.mono (by omega))
 have HR:=hide (mE p F w3 st (h.below aW))
 have HF:=hide (sN f w3)
 have hin:Dm.jR (f:Int)=true:=by simp[Dm.jR];omega
 rw[hin]at HF
 have hform:=hb.form
 have HCH:Hid (Calls Tryz.prog 147 #[vb,.int .i64 64] w3 fun e w'=>e=.returned (.func (.func 205) #[] #[.pointer (some ⟨w.heap.size+3,0,none⟩),.pointer (some ⟨w.heap.size+4,0,none⟩)])∧W0=w'):=hide (by
  refine(alr vb hform w3).mono ?_
  rintro e w' ⟨rfl,rfl⟩
  rw[show w3.heap.size=w.heap.size+3 by omega]
  exact⟨rfl,by rw[hw4,gM]⟩)
 have hFw:=h.lt
 have I0:Hid (WI p F W0 st f bs 0 F [] W0):=hide ⟨F,h.below cZ,rfl,Out.refl _ _,fun g hg=>.inl hg⟩
 have C0:w3.cell? ⟨w.heap.size,0,none⟩=some (.pointer (some ⟨p,0,none⟩)):=by
  have e1:=(az.block w.heap.size (by omega)).trans B1
  exact ai ((aC.block w.heap.size (by omega)).trans e1) 0 rfl
 have C1:w3.cell? ⟨w.heap.size+1,0,none⟩=some (.int .i64 f):=ai ((aC.block (w.heap.size+1) (by omega)).trans B2) 0 rfl
 have D0:W0.heap[w.heap.size]? =some (.cells #[.pointer (some ⟨p,0,none⟩)] 39 (0,0)):=(aQ.block _ (by omega)).trans ((aL.block _ (by omega)).trans ((aC.block _ (by omega)).trans ((az.block _ (by omega)).trans B1)))
 have D1:W0.heap[w.heap.size+1]? =some (.cells #[.int .i64 f] 3 (0,0)):=(aQ.block _ (by omega)).trans ((aL.block _ (by omega)).trans ((aC.block _ (by omega)).trans B2))
 have D2:W0.heap[w.heap.size+2]? =some (.cells #[.int .i64 0] 29 (0,0)):=(aQ.block _ (by omega)).trans ((aL.block _ (by omega)).trans B3)
 have D3:W0.heap[w.heap.size+3]? =some (.cells #[vb] 61 (0,0)):=(aQ.block _ (by omega)).trans B4
 have auV:∀W,Out F W0 W→Is .u8 W vb bs:=fun W hO=>by
  by_cases h0:0<bs.length
  ·have h1:=hb.lt h0
   refine(hb.below cZ).agree fun g hg=>hO.block g (Nat.lt_of_lt_of_le (h1 g hg) cZ.size) (hbF h0 g hg)
  ·refine⟨hb.1,?_⟩
   rcases hb.2 with h1|⟨ad,cp,h1,h2,h3,_⟩
   ·exact .inl h1
   ·exact .inr ⟨ad,cp,h1,h2,h3,fun i hi=>by omega⟩
 have HIB:=hide auV
 have ao7:∀W,Out F W0 W→∀B,w.heap.size≤B→B<W0.heap.size→W.heap[B]? =W0.heap[B]? :=fun W hO B h1 h2=>hO.block B h2 fun h3=>by have:=hFw B h3;omega
 have HST:=hide ao7
 have hk:=wH hon
 have SEQ:=hide (akC 5 (by omega) (w.heap.size+3) (w.heap.size+4) b off cap bs vb hsv hcap hcm (by omega) W0 (by omega) (by omega) (ai D3 0 rfl) (ai B5 0 rfl))
 have HW:Hid (∀g,F g→g<w.heap.size):=hide hFw
 have hmx:=Tryz.mixed
 replace dm:w2.heap.size=w.heap.size+2:=by omega
 replace bJ:w3.heap.size=w.heap.size+3:=by omega
 replace lU:W0.heap.size=w.heap.size+5:=by omega
 obtain⟨va,vn,vc,hvf⟩:=hform
 have HVF:=hide hvf
 have HVB:=hide hsv
 have DD:=hide (And.intro D0 (And.intro D1 D2))
 clear h hb hsv D3 B1 B2 B3 B4 B5 auV ao7 hFw hbF D0 D1 D2 hw4 gM iE aL aQ hvf
 refine(callsIn_wide (n:=6)).1 ?_
 refine callsIn_of_wp_marks Tryz.func70 rfl trivial ?_ rfl
 simp only[Tryz.ntmps70,List.size_toArray,List.length_cons,List.length_nil,Nat.reduceAdd,Nat.reduceSub,Array.replicate_succ,Array.replicate_zero,List.push_toArray,List.append_toArray,List.nil_append,List.cons_append]
 gi_wp2_with fail
 refine⟨trivial,(callsIn_wide.2 HR.out).mono ?_⟩
 rintro E w' ⟨rfl,rfl⟩
 rw[hk]
 gi_wp2_with fail
 refine⟨trivial,(callsIn_wide.2 HF.out).mono ?_⟩
 rintro E w' ⟨rfl,rfl⟩
 gi_wp2_with fail
 refine⟨trivial,(callsIn_wide.2 HCH.out).mono ?_⟩
 rintro E w' ⟨rfl,rfl⟩
 clear hw1 hw2 hw3 C0 C1
 gi_wp2_with fail
 refine wpIn_rangeFunc_ownF rfl (by omega) (gf:=205) (lb:=#[.pointer (some ⟨w.heap.size+3,0,none⟩),.pointer (some ⟨w.heap.size+4,0,none⟩)]) rfl trivial (enters_of Tryz.func205 (by kernel_rfl) rfl) SEQ.out Kc.trans (awx (by omega) (by omega)) (Below.refl _ _) (fun _=>rfl)
  (WI p F W0 st f bs 0 F)
  (fun c pre W=>(c=.ret∧W.heap[w.heap.size+2]? =some (.cells #[.int .i64 6] 29 (0,0)))∧WI p F W0 st f bs 6 (fun g=>F g∨g=w.heap.size+2) pre W)
  WI.own
  (fun c=>OwnFrom.and (fun s A B row hs hg hr=>⟨hs.1,(hg.block (w.heap.size+2) (aA hs.2) fun e=>by have:=(hr _ e.symm).1;omega).trans hs.2⟩) WI.own)
  I0.out
  (fun x=>{tmps:=#[.pointer (some ⟨p,0,none⟩),.int .i64 f,vb,.pointer (some ⟨w.heap.size,0,none⟩),.pointer (some ⟨w.heap.size+1,0,none⟩),undef,.pointer (some ⟨w.heap.size+2,0,none⟩),.int .i64 0,vD b off bs.length x.1,undef,.pointer (some ⟨p,0,none⟩),.int .i64 0,.int .i64 0,.bool false,undef,.int .i64 f,.bool true,.bool false,vb,.func (.func 205) #[] #[.pointer (some ⟨w.heap.size+3,0,none⟩),.pointer (some ⟨w.heap.size+4,0,none⟩)],vD b off bs.length x.1,undef,undef,undef,undef,undef,undef,undef,undef,undef],defers:=[]}) ?assign ?body ?done ?stop
 case assign=>
  intro l x W K hK
  gi_wp2
  exact hK
 case body=>
  rintro l pre x W hI hlt
  have jP:Out F W0 W:=by
   obtain⟨_,_,_,h1,_⟩:=hI
   exact h1
  have g0:=(HST.out W jP w.heap.size (by omega) (by omega)).trans DD.out.1
  have g1:=(HST.out W jP (w.heap.size+1) (by omega) (by omega)).trans DD.out.2.1
  have eR:=(HST.out W jP (w.heap.size+2) (by omega) (by omega)).trans DD.out.2.2
  have x0:W.cell? ⟨w.heap.size,0,none⟩=some (.pointer (some ⟨p,0,none⟩)):=ai g0 0 rfl
  have x1:W.cell? ⟨w.heap.size+1,0,none⟩=some (.int .i64 f):=ai g1 0 rfl
  have hvb:vb=.slice (some ⟨b,off,none⟩) bs.length cap:=by
   rcases HVB.out with h1|⟨h1,_⟩
   ·exact h1
   ·have:=x.2;omega
  have isx:Is .u8 W (vD b off bs.length x.1) (ck bs x.1):=avS (by rw[←hvb];exact HIB.out W jP) x.1 x.2
  have hW0:=jP.size
  have HC:Hid (Calls Tryz.prog 69 #[vD b off bs.length x.1] W.drew fun E w1=>∃v1,E=.returned v1∧Own .u8 5 W.heap.size w1 v1 (ck bs x.1)∧Below W.heap.size W w1∧w1.cell? ⟨w.heap.size,0,none⟩=some (.pointer (some ⟨p,0,none⟩))∧w1.cell? ⟨w.heap.size+1,0,none⟩=some (.int .i64 f)):=hide (by
   refine(nZ _ _ W.drew (isx.drewN 1) (by rw[uG];omega)).mono ?_
   rintro E w1 ⟨v1,rfl,aZ,ak⟩
   have aiA:Below W.heap.size W w1:=(below_drewN (Below.refl _ _) 1).trans ak
   exact⟨v1,rfl,aZ,aiA,(aiA.cell (p:=⟨w.heap.size,0,none⟩) (by show w.heap.size<W.heap.size;omega)).trans x0,(aiA.cell (p:=⟨w.heap.size+1,0,none⟩) (by show w.heap.size+1<W.heap.size;omega)).trans x1⟩)
  have HDO:=hide (amj p F W0 st f hf bs (fun g hg=>by have:=HW.out g hg;omega) pre x W hI hlt hw hl hc)
  have hd1:1≤6-1-1:=by omega
  have HeR:=hide eR
  have HOUT:=hide jP
  clear hI g0 g1 isx hvb eR jP
  rcases ajW f (jD bs (pre++[x])) st with he|he
  ·have eR:=HeR.out
   rw[he]at HDO
   gi_wp2_with fail
   gi_region_with_o (first
    |(refine⟨trivial,?_⟩;gi_at_call 69;refine(CallsIn.inRound l (callsIn_wide.2 HC.out)).mono ?_;rintro E w1 ⟨v1,rfl,aZ,ak,y0,y1⟩;obtain⟨a1,k1,hv1,_,_⟩:=aZ.is.shape;subst hv1;have HOW:=hide aZ)
    |(refine⟨trivial,?_⟩;gi_at_call 148;refine(CallsIn.inRound l (callsIn_wide.2 (HDO.out _ _ HOW.out ak))).mono ?_;rintro E w2 ⟨rfl,J,KO,KB⟩;have J:=hide J;have z2:=(KB (w.heap.size+2) (by omega) (fun h3=>by have:=HW.out _ h3;omega)).trans eR;have cz2:w2.cell? ⟨w.heap.size+2,0,none⟩=some (.int .i64 0):=ai z2 0 rfl;have fz2:=aB z2 0;have HKB:=hide KB;clear KB))
   all_goals gi_wp2
   all_goals
    have k1:=HKB.out (w.heap.size+3) (by omega) (fun h3=>by have:=HW.out _ h3;omega)
    have k2:=HKB.out (w.heap.size+4) (by omega) (fun h3=>by have:=HW.out _ h3;omega)
    exact⟨KO,⟨k1,k2⟩,J.out⟩
  ·have eR:=HeR.out
   rw[he]at HDO
   gi_wp2_with fail
   gi_region_with_o (first
    |(refine⟨trivial,?_⟩;gi_at_call 69;refine(CallsIn.inRound l (callsIn_wide.2 HC.out)).mono ?_;rintro E w1 ⟨v1,rfl,aZ,ak,y0,y1⟩;obtain⟨a1,k1,hv1,_,_⟩:=aZ.is.shape;subst hv1;have HOW:=hide aZ)
    |(refine⟨trivial,?_⟩;gi_at_call 148;refine(CallsIn.inRound l (callsIn_wide.2 (HDO.out _ _ HOW.out ak))).mono ?_;rintro E w2 ⟨rfl,J,KO,KB⟩;have J:=hide J;have z2:=(KB (w.heap.size+2) (by omega) (fun h3=>by have:=HW.out _ h3;omega)).trans eR;have cz2:w2.cell? ⟨w.heap.size+2,0,none⟩=some (.int .i64 0):=ai z2 0 rfl;have fz2:=aB z2 0;have HKB:=hide KB;clear KB))
   all_goals gi_wp2
   all_goals
    refine⟨KO.trans (KeepsOthers.setCell _ _ _),⟨rfl,by rw[aG z2];rfl⟩,?_⟩
    obtain⟨F',j1,j2,j3,j4⟩:=J.out
    have hnF:¬F' (w.heap.size+2):=fun h3=>by
     rcases j4 _ h3 with h4|h4
     ·have:=HW.out _ h4;omega
     ·omega
    have so:Out (fun g=>g=w.heap.size+2) w2 (w2.setCell ⟨w.heap.size+2,0,none⟩ (.int .i64 6)):=Out.aP (ax w2 ⟨w.heap.size+2,0,none⟩ _) fun g hg=>by simp at hg;exact hg.symm
    exact⟨F',j1.out so (fun g hg h5=>hnF (h5▸hg)),j2,(j3.mono (G:=fun g=>F g∨g=w.heap.size+2) fun g hg=>.inl (.inl hg)).trans so fun g hg=>.inl (.inr hg),j4⟩
 case done=>
  rintro D xs W hD rfl hI hK
  have jP:Out F W0 W:=by
   obtain⟨_,_,_,h1,_⟩:=hI
   exact h1
  have eR:=(HST.out W jP (w.heap.size+2) (by omega) (by omega)).trans DD.out.2.2
  have cR:W.cell? ⟨w.heap.size+2,0,none⟩=some (.int .i64 0):=ai eR 0 rfl
  have fR:=aB eR 0
  have HI:=hide hI
  have HK:=hide hK
  have HeR:=hide eR
  clear hI eR
  gi_wp2
  have hK':=(KeepsOthers.setCell W ⟨w.heap.size+2,0,none⟩ (.int .i64 0)).same D _ HK.out rfl
  refine⟨by simp,.inl ⟨_,_,rfl,run_takeDeferred hK',?_⟩⟩
  have hc5:=cell_kept (World.cell?_setCell_same' W ⟨w.heap.size+2,0,none⟩ (.int .i64 0) (by rw[cR];rfl)) (grownBy_putObj' _ D (.deferred none)) (fun r e=>by cases e;exact⟨_,hK',rfl⟩)
  have hend:=abW cZ HW.out (fun g hg=>.inl hg) HI.out (fun g=>g=w.heap.size+2∨g=D) ((Out.aP (F:=fun g=>g=w.heap.size+2∨g=D) (ax W ⟨w.heap.size+2,0,none⟩ (.int .i64 0)) fun g hg=>.inl (by simp at hg;exact hg.symm)).trans (Out.aP (F:=fun g=>g=w.heap.size+2∨g=D) (grownBy_putObj' _ D (.deferred none)) fun g hg=>.inr (by simp at hg;exact hg.symm)) fun g hg=>.inl hg) (fun g hg=>by rcases hg with h|h<;>omega) (fun g hg h2=>by
   rcases hg with h|h
   ·omega
   ·exact⟨_,by rw[h];exact HK.out,rfl⟩)
  have he:(wgo f st (pieces bs.length bs)).1=0:=by
   obtain⟨_,_,h1,_⟩:=HI.out
   rw[abb]at h1
   exact h1
  rw[abb]at hend
  refine⟨.int .i64 0,?_,by rw[he],hend⟩
  simp[results,Tryz.results70,go_sem,hc5]
 case stop=>
  rintro D c pre W hD ⟨k,hk2,rfl⟩ ⟨⟨rfl,eR⟩,hI⟩ hK
  have HI:=hide hI
  have HK:=hide hK
  have cR:W.cell? ⟨w.heap.size+2,0,none⟩=some (.int .i64 6):=ai eR 0 rfl
  clear hI eR
  gi_wp2
  refine⟨by simp,.inl ⟨_,_,rfl,run_takeDeferred HK.out,?_⟩⟩
  have hc5:=cell_kept cR (grownBy_putObj' _ D (.deferred none)) (fun r e=>by cases e;exact⟨_,HK.out,rfl⟩)
  have hend:=abW cZ HW.out (fun g hg=>by rcases hg with h|h;exact .inl h;exact .inr (by omega)) HI.out (fun g=>g=D) (Out.aP (F:=fun g=>g=D) (grownBy_putObj' _ D (.deferred none)) fun g hg=>by simp at hg;exact hg.symm) (fun g hg=>by omega) (fun g hg h2=>⟨.deferred (some []),by rw[hg];exact HK.out,rfl⟩)
  obtain⟨r,hr⟩:∃r,up bs.length (cnt bs.length)=up bs.length k++r:=by
   obtain⟨r,hr⟩:=aiZ bs.length k (cnt bs.length-k)
   rw[show k+(cnt bs.length-k)=cnt bs.length by omega]at hr
   exact⟨r,hr⟩
  have h6:(wgo f st (jD bs (up bs.length k))).1=6:=by
   obtain⟨_,_,h1,_⟩:=HI.out
   exact h1
  have e1:wgo f st (pieces bs.length bs)=wgo f st (jD bs (up bs.length k)):=by
   rw[←abb,hr]
   unfold jD at h6⊢
   rw[List.map_append]
   exact aev f _ _ st h6
  refine⟨.int .i64 6,?_,by rw[e1,h6],by rw[e1];exact hend⟩
  simp[results,Tryz.results70,go_sem,hc5]
end Go.Proofs.YtlmkaljjocflmaaGreatDoor
namespace Go.Proofs.YtlmkaljjocflmaaGreatDoor
open Go.RowKit Go.Shelf
set_option linter.unusedVariables false
attribute [local go_sem] Oper.semAt_some
theorem qL (p:Nat)(F:Nat→Prop)(w:World)(st:Dm.Ds)(file:Int)(vb:Value)(bs:List Int)(h:Pk p F w st)(hb:Is .u8 w vb bs)(hbF:0<bs.length→∀b,vb.ownBlock=some b→¬F b)(vG:bs.length≤1000000)
  (hw:st.wait.length+cnt bs.length≤1000000) (hl:st.left≤9223372036854775807) (hc:st.count+cnt bs.length<9223372036854775807):
  Calls Tryz.prog 70 #[.pointer (some ⟨p,0,none⟩),.int .i64 file,vb] w fun E w'=>E=.returned (.int .i64 (Dm.write st file bs).1)∧bT p F w w' (Dm.write st file bs).2:=by
 unfold Dm.write
 obtain⟨w1,hw1,aT,ak,B1⟩:=au w #[.pointer (some ⟨p,0,none⟩)] 39
 obtain⟨w2,hw2,dm,az,B2⟩:=au w1 #[.int .i64 file] 3
 obtain⟨w3,hw3,bJ,aC,B3⟩:=au w2 #[.int .i64 0] 29
 rw[aT]at B2 az
 rw[show w2.heap.size=w.heap.size+2 by omega]at B3 aC
 have aW:Below w.heap.size w w3:=(ak.trans (az.mono (by omega))).trans (aC.mono (by omega))
 have HR:=hide (mE p F w3 st (h.below aW))
 have HF:=hide (sN file w3)
 have HK:=hide h
 replace dm:w2.heap.size=w.heap.size+2:=by omega
 replace bJ:w3.heap.size=w.heap.size+3:=by omega
 have C0:w3.cell? ⟨w.heap.size,0,none⟩=some (.pointer (some ⟨p,0,none⟩)):=by
  have e1:=(az.block w.heap.size (by omega)).trans B1
  exact ai ((aC.block w.heap.size (by omega)).trans e1) 0 rfl
 have C1:w3.cell? ⟨w.heap.size+1,0,none⟩=some (.int .i64 file):=ai ((aC.block (w.heap.size+1) (by omega)).trans B2) 0 rfl
 have C2:w3.cell? ⟨w.heap.size+2,0,none⟩=some (.int .i64 0):=ai B3 0 rfl
 have f2:=aB B3 0
 have hend:∀e:Int,Below w.heap.size w (w3.setCell ⟨w.heap.size+2,0,none⟩ (.int .i64 e))∧(w3.setCell ⟨w.heap.size+2,0,none⟩ (.int .i64 e)).cell? ⟨w.heap.size+2,0,none⟩=some (.int .i64 e):=fun e=>
  ⟨aW.grown (ax w3 ⟨w.heap.size+2,0,none⟩ _) (by omega) fun k hk=>by simp at hk;omega,ai (aG B3 0 (.int .i64 e)) 0 (by simp)⟩
 have HE:=hide hend
 cases hon:st.on
 ·rw[if_pos rfl]
  have hk:=wV hon
  clear h hon hend B1 B2 B3
  refine(callsIn_wide (n:=6)).1 ?_
  refine callsIn_of_wp_marks Tryz.func70 rfl trivial ?_ rfl
  simp only[Tryz.ntmps70,List.size_toArray,List.length_cons,List.length_nil,Nat.reduceAdd,Nat.reduceSub,Array.replicate_succ,Array.replicate_zero,List.push_toArray,List.append_toArray,List.nil_append,List.cons_append]
  gi_wp2_with fail
  refine⟨trivial,(callsIn_wide.2 HR.out).mono ?_⟩
  rintro E w' ⟨rfl,rfl⟩
  rw[hk]
  gi_wp2
  obtain⟨b6,c6⟩:=HE.out 6
  refine⟨.int .i64 6,?_,rfl,bT.same HK.out b6⟩
  simp[results,Tryz.results70,go_sem,c6]
 ·rw[if_neg (by simp)]
  have hk:=wH hon
  cases hin:Dm.jR file
  ·rw[if_pos rfl]
   rw[hin]at HF
   clear h hon hend B1 B2 B3 hin
   refine(callsIn_wide (n:=6)).1 ?_
   refine callsIn_of_wp_marks Tryz.func70 rfl trivial ?_ rfl
   simp only[Tryz.ntmps70,List.size_toArray,List.length_cons,List.length_nil,Nat.reduceAdd,Nat.reduceSub,Array.replicate_succ,Array.replicate_zero,List.push_toArray,List.append_toArray,List.nil_append,List.cons_append]
   gi_wp2_with fail
   refine⟨trivial,(callsIn_wide.2 HR.out).mono ?_⟩
   rintro E w' ⟨rfl,rfl⟩
   rw[hk]
   gi_wp2_with fail
   refine⟨trivial,(callsIn_wide.2 HF.out).mono ?_⟩
   rintro E w' ⟨rfl,rfl⟩
   gi_wp2
   obtain⟨b6,c6⟩:=HE.out 2
   refine⟨.int .i64 2,?_,rfl,bT.same HK.out b6⟩
   simp[results,Tryz.results70,go_sem,c6]
  ·rw[if_neg (by simp)]
   obtain⟨f,hf,rfl⟩:=agX hin
   rw[Int.toNat_natCast,aaL]
   exact aq8 p F w st f hf vb bs h hon hb hbF vG hw hl hc
end Go.Proofs.YtlmkaljjocflmaaGreatDoor
namespace Go.Proofs.YtlmkaljjocflmaaGreatDoor
open Go.RowKit
set_option linter.unusedVariables false
def Big (t u:Nat) (st:Dm.Ds):Prop:=Dm.Sz t u st∧st.left≤9223372036854775807
theorem Big.mono {t u t' u':Nat}{st:Dm.Ds}(h:Big t u st)(ht:t≤t')(hu:u≤u'):Big t' u' st:=
 ⟨⟨fun f=>Nat.le_trans (h.1.1 f) ht,Nat.le_trans h.1.2.1 hu,Nat.le_trans h.1.2.2 hu⟩,h.2⟩
theorem oI:Big 0 0 Dm.new:=⟨⟨fun f=>by simp[Dm.new,Dm.fP],by simp[Dm.new],by simp[Dm.new]⟩,by simp[Dm.new]⟩
theorem yH {t u:Nat}{st:Dm.Ds}(h:Big t u st):Big t u (Dm.jq st):=h
theorem afD {t u:Nat}{st:Dm.Ds}(h:Big t u st):Big t (u+1) (Dm.dh st):=
 ⟨⟨h.1.1,Nat.le_trans h.1.2.1 (by omega),by show st.count+1≤u+1;have:=h.1.2.2;omega⟩,by show(if st.has then st.left-1 else st.left)≤_;have:=h.2;split<;>omega⟩
theorem afa {t u:Nat}{st:Dm.Ds}(h:Big t u st)(r:Dm.Rw):Big (t+r.bytes.length) (u+1) (Dm.push (Dm.dh st) r):=by
 have hb:=afD h
 refine⟨⟨fun f=>?_,?_,hb.1.2.2⟩,hb.2⟩
 ·have h1:=h.1.1 f
  show(st.sure f).length+Dm.fP (st.wait++[r])≤_
  rw[Dm.zq]
  simp only[Dm.fP]
  omega
 ·have h1:=h.1.2.1
  show(st.wait++[r]).length≤_
  rw[List.length_append]
  simp only[List.length_cons,List.length_nil]
  omega
theorem ag6 (file:Nat):∀(n:Nat) (bs:List Int) (t u:Nat) (st:Dm.Ds),Big t u st→Big (t+bs.length) (u+cnt bs.length) (Dm.wrt file n st bs).2
 |0,bs,t,u,st,h=>h.mono (by omega) (by omega)
 |n+1,bs,t,u,st,h=>by
  rw[Dm.wrt]
  by_cases hb:bs=[]
  ·rw[if_pos hb];exact h.mono (by omega) (by omega)
  ·rw[if_neg hb]
   have h1:0<bs.length:=List.length_pos_iff.2 hb
   split
   ·exact(yH h).mono (by omega) (by omega)
   ·have:=ag6 file n (bs.drop 64) _ _ _ (afa h ⟨file,false,0,bs.take 64⟩)
    refine this.mono ?_ ?_
    ·simp only[List.length_take,List.length_drop];omega
    ·rw[List.length_drop];unfold cnt;omega
theorem qH {t u:Nat}{st:Dm.Ds}(h:Big t u st)(file:Int)(bs:List Int):Big (t+bs.length) (u+cnt bs.length) (Dm.write st file bs).2:=by
 unfold Dm.write
 split
 ·exact h.mono (by omega) (by omega)
 ·split
  ·exact h.mono (by omega) (by omega)
  ·exact ag6 _ _ _ _ _ _ h
theorem axC {t u:Nat}{st:Dm.Ds}(h:Big t u st)(file len:Int):Big t (u+1) (Dm.dX st file len).2:=by
 unfold Dm.dX
 split
 ·exact h.mono (by omega) (by omega)
 ·split
  ·exact h.mono (by omega) (by omega)
  ·split
   ·exact h.mono (by omega) (by omega)
   ·split
    ·exact(yH h).mono (by omega) (by omega)
    ·exact afa h _
theorem akH {t u:Nat}{st:Dm.Ds}(h:Big t u st):Big t u (Dm.flush st):=
 ⟨⟨fun f=>by
  have h1:=h.1.1 f
  have h2:=agr st.sure st.wait f
  show(Dm.dof st.sure st.wait f).length+0≤t
  omega,Nat.zero_le _,h.1.2.2⟩,h.2⟩
theorem aeV {t u:Nat}{st:Dm.Ds}(h:Big t u st):Big t (u+1) (Dm.sync st).2:=by
 unfold Dm.sync
 split
 ·exact h.mono (by omega) (by omega)
 ·split
  ·exact(yH h).mono (by omega) (by omega)
  ·exact akH (afD h)
theorem amm {l:List Cm.Cv}{k:Nat}{c:Cm.Cv}(hk:l[k]? =some c)(hl:l.length=k+1)(e:Int):Cm.lastN e l=c.n:=by
 rcases List.eq_nil_or_concat l with rfl|⟨r,d,rfl⟩
 ·simp at hk
 ·rw[List.concat_eq_append]at hk hl⊢
  rw[List.length_append,List.length_singleton]at hl
  obtain rfl:r.length=k:=by omega
  rw[Rl.iF r d e]
  simp at hk
  rw[hk]
theorem amv (v:Value)(rs:List Cw)(w:World)(h:dU w v rs)(hl:rs.length≤1048576):
  Calls Tryz.prog 238 #[v] w fun E w'=>E=.returned (.int .i64 (Cm.lastN 0 (aH rs)))∧w=w':=by
 by_cases h0:rs.length=0
 ·have hr:rs=[]:=List.eq_nil_of_length_eq_zero h0
  subst hr
  obtain⟨ao,cap,rfl,_,_⟩:=h.shape
  clear h
  go_enter Tryz.func238,Tryz.ntmps238
  go_wp2
  go_ret
  exact⟨rfl,rfl⟩
 ·obtain⟨k,hk⟩:∃k,rs.length=k+1:=⟨rs.length-1,by omega⟩
  obtain⟨g,off,cap,rfl,_,_,_,hcell⟩:=h.full (by omega)
  obtain⟨c,hck⟩:∃c,rs[k]? =some c:=⟨rs[k]'(by omega),by rw[List.getElem?_eq_getElem]⟩
  obtain⟨_,c1,_⟩:=hcell k c hck
  have hL:Cm.lastN 0 (aH rs)=c.n:=amm (k:=k) (c:=c.c) (by unfold aH;rw[List.getElem?_map,hck];rfl) (by unfold aH;rw[List.length_map];exact hk) 0
  rw[hL,hk]
  have hne:(((k+1:Nat):Int)==0)=false:=by simp;omega
  have hw:IntKind.i64.wrap (((k+1:Nat):Int)-1)=(k:Int):=by rw[aS _ (by omega) (by omega)];omega
  have hk1:(k:Int)<((k+1:Nat):Int):=by omega
  clear h hcell hck hL
  go_enter Tryz.func238,Tryz.ntmps238
  go_wp2
  go_ret
  exact⟨rfl,rfl⟩
theorem vP (p q:Nat)(w:World)(u1 u2:Value)(hB:w.heap[p]? =some (.cells #[.pointer (some ⟨q,0,none⟩),u1,u2] 276 (0,0))):
  Calls Tryz.prog 226 #[.pointer (some ⟨p,0,none⟩)] w fun E w'=>E=.returned (.bool true)∧w=w':=by
 have c0:=ai hB 0 rfl
 clear hB
 go_enter Tryz.func226,Tryz.ntmps226
 go_wp2
 go_ret
 exact⟨rfl,rfl⟩
def afd (e n:Int) (l:List Bm.Ov):List Int:=if Rn.chk e n l=0 then Rl.fr ⟨e,n,l⟩else []
theorem afY (e n:Int)(v:Value)(l:List Bm.Ov)(w:World)(h:dz w v l)(hf:fZ l)(hl:l.length≤140737488355328):
  Calls Tryz.prog 320 #[dF e n v] w fun E w'=>∃vb,E=.returned (.tuple #[vb,.int .i64 (Rn.chk e n l)])∧Own .u8 5 w.heap.size w' vb (afd e n l)∧Below w.heap.size w w':=by
 obtain⟨ao,cap,hv,_,_⟩:=h.shape
 obtain⟨w1,hw1,aT,ak,hB⟩:=au w #[.int .i64 e,.int .i64 n,v] 273
 have c0:w1.cell? ⟨w.heap.size,0,none⟩=some (.int .i64 e):=ai hB 0 rfl
 have c1:w1.cell? ⟨w.heap.size,1,none⟩=some (.int .i64 n):=ai hB 1 rfl
 have c2:w1.cell? ⟨w.heap.size,2,none⟩=some v:=ai hB 2 rfl
 have HC:=hide (alZ e n v l w1 (h.below ak) hf hl)
 unfold dF at HC⊢
 rw[hv]at hw1 c2 HC⊢
 obtain⟨ch,hch⟩:∃c,Rn.chk e n l=c:=⟨_,rfl⟩
 have KC:=hide hch
 rw[hch]at HC⊢
 clear h hf hl hB hv hch
 go_enter Tryz.func320,Tryz.ntmps320
 go_wp2_with fail
 refine HC.out.mono ?_
 rintro E w2 ⟨vb,rfl,own,az⟩
 have aO:=ak.trans (az.mono ak.size)
 obtain⟨ab,cb,hvb,_,_⟩:=own.is.shape
 by_cases hc0:ch=0
 ·have hz:(Rn.out e n l).length≤52233:=Rn.uY e n l
  have HF:=hide (yO (.slice none 0 0) vb [] (Rn.out e n l) w2 (Is.nil _ _) own.is (by simp) (by omega))
  have ea:zy (Rn.out e n l)=0:=by unfold zy;rw[if_pos (by omega)]
  have ed:apd [] (Rn.out e n l)=afd e n l:=by
   unfold apd afd
   rw[if_pos (by omega),if_pos (by rw[KC.out];exact hc0),Rn.jS (by rw[KC.out];exact hc0)]
   rfl
  rw[ea,ed]at HF
  subst hvb
  subst hc0
  clear own ak az ea ed hz HC
  go_wp2_with fail
  refine HF.out.mono ?_
  rintro E w3 ⟨vf,rfl,bG,aC⟩
  obtain⟨af,cf,hvf,_,_⟩:=bG.is.shape
  have O3:=hide (bG.bz (base':=w.heap.size) aO.size)
  have B3:=hide (aO.trans (aC.mono aO.size))
  subst hvf
  clear bG aC aO HF
  go_wp2
  go_ret2
  exact⟨_,rfl,O3.out,B3.out⟩
 ·have ed:afd e n l=[]:=by unfold afd;rw[if_neg (by rw[KC.out];exact hc0)]
  have ED:=hide ed
  have hne:(ch !=0)=true:=by simp[hc0]
  subst hvb
  clear own ak az ed HC
  go_wp2
  go_ret2
  exact⟨_,rfl,by rw[ED.out];exact Own.nil _ _ _ _,aO⟩
theorem mY (p q:Nat)(F:Nat→Prop)(w:World)(s:Rl.Rs)(h:RW p q F w s):
  Calls Tryz.prog 179 #[.pointer (some ⟨p,0,none⟩)] w fun E w'=>E=.returned (.int .i64 (Cm.lastN 0 s.l))∧w=w':=by
 obtain⟨F1,G1,h1,h2,rfl⟩:=h
 obtain⟨v,rs,hv,rfl⟩:=h2
 have HM:=hide (vP p q w _ _ hv.blk)
 have HE:=hide (amv v rs w hv.log.row.row hv.log.ajN)
 rw[hv.log.is]at HE
 have c2:=ai hv.blk 2 rfl
 simp only[List.getElem_toArray,List.getElem_cons_zero,List.getElem_cons_succ]at c2
 clear hv h1
 go_enter Tryz.func179,Tryz.ntmps179
 go_wp2_with fail
 refine HM.out.mono ?_
 rintro E w1 ⟨rfl,rfl⟩
 go_wp2_with fail
 refine HE.out.mono ?_
 rintro E w1 ⟨rfl,rfl⟩
 go_wp2
 go_ret
 exact⟨rfl,rfl⟩
end Go.Proofs.YtlmkaljjocflmaaGreatDoor
namespace Go.Proofs.YtlmkaljjocflmaaGreatDoor
open Go.RowKit
open Bm (Ov)
set_option linter.unusedVariables false
theorem aqD {e n:Int}{l:List Ov}(h:Cm.chk e n l=0):fZ l∧l.length*40≤140737488351232∧In64 e∧In64 n∧l.length≤8:=by
 obtain⟨h1,h2,h3,h4,h5⟩:=Cm.aV h
 obtain⟨k1,k2,k3⟩:=Bm.dJ h5
 refine⟨fun o ho=>?_,by omega,⟨by omega,by omega⟩,⟨by omega,by omega⟩,k2⟩
 obtain⟨_,k2,k3,_⟩:=Om.ic (k3 o ho)
 have e1:o.k.size=o.k.data.toList.length:=rfl
 have e2:o.v.size=o.v.data.toList.length:=rfl
 have e3:o.kl=o.k.data.toList:=rfl
 have e4:o.vl=o.v.data.toList:=rfl
 rw[e3]at k2
 rw[e4]at k3
 omega
structure Rt (base:Nat) (w:World) (l:List Cm.Cv) (v:Value) (rs:List Cw):Prop where
 row:bK 35 base w v rs
 kr:gP base w rs
 is:aH rs=l
 good:∀c∈l,Cm.chk c.e c.n c.l=0
 few:l.length≤1048576
section
variable {base base':Nat} {w w':World} {l:List Cm.Cv} {v:Value} {rs:List Cw} {F G:Nat→Prop}
theorem Rt.nil (base:Nat)(w:World):Rt base w [] (.slice none 0 0) []:=⟨bK.nil _ _ _,fun c hc=>by simp at hc,rfl,fun c hc=>by simp at hc,by simp⟩
theorem Rt.ty (h:Rt base w l v rs):∀g,QB v rs g→∃cs t,w.heap[g]? =some (.cells cs t (0,0))∧(t=35∨t=71):=by
 rintro g (hb|⟨c,hc,hb⟩)
 ·obtain⟨cs,e⟩:=h.row.type hb
  exact⟨_,_,e,.inl rfl⟩
 ·obtain⟨cs,e⟩:=(h.kr c hc).type hb
  exact⟨_,_,e,.inr rfl⟩
theorem Rt.lt (h:Rt base w l v rs):∀g,QB v rs g→g<w.heap.size:=fun g hg=>by
 obtain⟨cs,t,e,_⟩:=h.ty g hg
 exact aA e
theorem Rt.agree (h:Rt base w l v rs)(ha:∀g,QB v rs g→w'.heap[g]? =w.heap[g]?):Rt base w' l v rs:=
 ⟨dw h.row fun b hb=>ha b (.inl hb),fun c hc=>dw (h.kr c hc) fun b hb=>ha b (.inr ⟨c,hc,hb⟩),h.is,h.good,h.few⟩
theorem Rt.below (h:Rt base w l v rs)(hb:Below w.heap.size w w'):Rt base w' l v rs:=h.agree fun g hg=>hb.block g (h.lt g hg)
theorem Rt.out (h:Rt base w l v rs)(ho:Out F w w')(hd:∀g,QB v rs g→¬F g):Rt base w' l v rs:=h.agree fun g hg=>ho.block g (h.lt g hg) (hd g hg)
theorem Rt.ne (h:Rt base w l v rs){b:Nat}{cs:Array Value}{t:TypeId}{fr:Nat×Nat}(hb:w.heap[b]? =some (.cells cs t fr))(h1:t≠35)(h3:t≠71):¬QB v rs b:=by
 intro hg
 obtain⟨cs',t',e,ht⟩:=h.ty b hg
 rw[hb]at e
 simp only[Option.some.injEq,Obj.cells.injEq]at e
 obtain⟨_,e2,_⟩:=e
 subst e2
 rcases ht with e|e
 ·exact h1 e
 ·exact h3 e
theorem Rt.len (h:Rt base w l v rs):rs.length=l.length:=by rw[←h.is,aH,List.length_map]
theorem Rt.grow {v':Value}{c:Cw}(h:Rt base w l v rs)(ho:bK 35 base w' v' (rs++[c]))(hk:bH 35 w w')(hc:bu 71 base w c.v c.l)(hg:Cm.chk c.e c.n c.l=0)(hn:l.length+1≤1048576):Rt base w' (l++[c.c]) v' (rs++[c]):=by
 refine⟨ho,fun d hd=>?_,by unfold aH;rw[List.map_append,←h.is];rfl,fun d hd=>?_,by rw[List.length_append,List.length_singleton];exact hn⟩
 ·rcases List.mem_append.1 hd with hd|hd
  ·exact(h.kr d hd).p9 hk (by decide)
  ·rw[List.mem_singleton.1 hd]
   exact hc.p9 hk (by decide)
 ·rcases List.mem_append.1 hd with hd|hd
  ·exact h.good d hd
  ·rw[List.mem_singleton.1 hd]
   exact hg
end
structure vL (ps p pm bm:Nat) (w:World) (l:List Cm.Cv) (v:Value) (rs:List Cw):Prop where
 blk:w.heap[ps]? =some (.cells #[.pointer (some ⟨p,0,none⟩),v,.pointer (some ⟨pm,0,none⟩)] 288 (0,0))
 rest:Rt 0 w l v rs
 tb:Tb pm bm w (Rl.tab l)
def SB (ps pm bm:Nat) (v:Value) (rs:List Cw) (g:Nat):Prop:=g=ps∨g=pm∨g=bm∨QB v rs g
def Sk (ps p:Nat) (G:Nat→Prop) (w:World) (l:List Cm.Cv):Prop:=∃pm bm v rs,vL ps p pm bm w l v rs∧G=SB ps pm bm v rs
section
variable {ps p pm bm q:Nat} {w w' w1 w2:World} {l:List Cm.Cv} {v:Value} {rs:List Cw} {F G F1:Nat→Prop}
theorem vL.lt (h:vL ps p pm bm w l v rs):∀g,SB ps pm bm v rs g→g<w.heap.size:=by
 rintro g (rfl|rfl|rfl|hg)
 ·exact aA h.blk
 ·exact h.tb.plt
 ·exact h.tb.blt
 ·exact h.rest.lt g hg
theorem vL.agree (h:vL ps p pm bm w l v rs)(ha:∀g,SB ps pm bm v rs g→w'.heap[g]? =w.heap[g]?):vL ps p pm bm w' l v rs:=
 ⟨(ha ps (.inl rfl)).trans h.blk,h.rest.agree fun g hg=>ha g (.inr (.inr (.inr hg))),h.tb.agree (ha pm (.inr (.inl rfl))) (ha bm (.inr (.inr (.inl rfl))))⟩
theorem vL.below (h:vL ps p pm bm w l v rs)(hb:Below w.heap.size w w'):vL ps p pm bm w' l v rs:=h.agree fun g hg=>hb.block g (h.lt g hg)
theorem Sk.lt (h:Sk ps p G w l):∀g,G g→g<w.heap.size:=by
 obtain⟨pm,bm,v,rs,h,rfl⟩:=h
 exact h.lt
theorem Sk.agree (h:Sk ps p G w l)(ha:∀g,G g→w'.heap[g]? =w.heap[g]?):Sk ps p G w' l:=by
 obtain⟨pm,bm,v,rs,h,rfl⟩:=h
 exact⟨pm,bm,v,rs,h.agree ha,rfl⟩
theorem Sk.below (h:Sk ps p G w l)(hb:Below w.heap.size w w'):Sk ps p G w' l:=h.agree fun g hg=>hb.block g (h.lt g hg)
theorem Sk.out (h:Sk ps p G w l)(ho:Out F w w')(hd:∀g,G g→¬F g):Sk ps p G w' l:=h.agree fun g hg=>ho.block g (h.lt g hg) (hd g hg)
end
def SW (ps p q:Nat) (F:Nat→Prop) (w:World) (s:Sto.Ss):Prop:=∃F1 G1,RW p q F1 w s.r∧Sk ps p G1 w s.l∧(∀g,G1 g→¬F1 g)∧Sto.Ok s∧F=fun g=>F1 g∨G1 g
def qZ (ps p q:Nat) (F:Nat→Prop) (w w':World) (s':Sto.Ss):Prop:=∃F',SW ps p q F' w' s'∧Out F w w'∧∀g,F' g→F g∨w.heap.size≤g
section
variable {ps p q:Nat} {F G:Nat→Prop} {w w' w1 w2:World} {s s':Sto.Ss}
theorem SW.lt (h:SW ps p q F w s):∀g,F g→g<w.heap.size:=by
 obtain⟨F1,G1,h1,h2,_,_,rfl⟩:=h
 rintro g (hg|hg)
 ·exact h1.lt g hg
 ·exact h2.lt g hg
theorem SW.agree (h:SW ps p q F w s)(ha:∀g,F g→w'.heap[g]? =w.heap[g]?):SW ps p q F w' s:=by
 obtain⟨F1,G1,h1,h2,h3,h4,rfl⟩:=h
 exact⟨F1,G1,h1.agree fun g hg=>ha g (.inl hg),h2.agree fun g hg=>ha g (.inr hg),h3,h4,rfl⟩
theorem SW.below (h:SW ps p q F w s)(hb:Below w.heap.size w w'):SW ps p q F w' s:=h.agree fun g hg=>hb.block g (h.lt g hg)
theorem SW.ok (h:SW ps p q F w s):Sto.Ok s:=by
 obtain⟨F1,G1,h1,h2,h3,h4,rfl⟩:=h
 exact h4
theorem qZ.trans {F1:Nat→Prop}(ho:Out F w w1)(hs:∀g,F1 g→F g∨w.heap.size≤g)(k:qZ ps p q F1 w1 w2 s'):qZ ps p q F w w2 s':=by
 obtain⟨F2,h1,h2,h3⟩:=k
 refine⟨F2,h1,ho.trans h2 hs,fun g hg=>?_⟩
 rcases h3 g hg with h|h
 ·exact hs g h
 ·exact .inr (Nat.le_trans ho.size h)
theorem qZ.same (h:SW ps p q F w s)(hb:Below w.heap.size w w'):qZ ps p q F w w' s:=⟨F,h.below hb,Out.of_below hb,fun g hg=>.inl hg⟩
theorem qZ.pre (hb:Below w.heap.size w w1)(h:qZ ps p q F w1 w2 s'):qZ ps p q F w w2 s':=h.trans (Out.of_below hb) fun g hg=>.inl hg
end
end Go.Proofs.YtlmkaljjocflmaaGreatDoor
namespace Go.Proofs.YtlmkaljjocflmaaGreatDoor
open Go.RowKit
set_option linter.unusedVariables false
structure FstN (w wr:World) (g m cap:Nat) (rest:List Cw) (k:Nat) (rk:List Cw):Prop where
 row:bK 273 w.heap.size wr (.slice (some ⟨g,0,none⟩) m cap) rk
 len:rk.length=m
 left:rk.drop k=rest.drop k
 kr:gP w.heap.size wr (rk.take k)
 is:aH rk=aH rest
 ap:yw (rk.take k)
 aK:Below w.heap.size w wr
end Go.Proofs.YtlmkaljjocflmaaGreatDoor

/- Texts of one layer, one behind the other. -/
import Derived.Test.YtpifdeoepppadaaGreatDoorG15
import Derived.Test.YtpifdeoepppadaaGreatDoorG12
import Derived.Test.YtpifdeoepppadaaGreatDoorG13
import Derived.Test.YtpifdeoepppadaaGreatDoorG7
import Derived.BigQuiet
import Derived.Test.YtpifdeoepppadaaGreatDoorH12
import Derived.Test.YtpifdeoepppadaaGreatDoorH13
set_option maxRecDepth 100000
set_option maxHeartbeats 8000000
namespace Go.Proofs.YtpifdeoepppadaaGreatDoor
open Go.RowKit Go.Shelf
set_option linter.unusedVariables false
attribute [local go_sem] Oper.semAt_some
def wgo (file:Nat):Dm.Ds→List (List Int)→Int×Dm.Ds
 |st,[]=>(0,st)
 |st,c::cs=>if Dm.off st then(6,Dm.iK st)else wgo file (Dm.push (Dm.cO st) ⟨file,false,0,c⟩) cs
theorem anY (file:Nat):∀(cs:List (List Int)) (st:Dm.Ds),(wgo file st cs).1=0∨(wgo file st cs).1=6
 |[],_=>.inl rfl
 |c::cs,st=>by
  rw[wgo]
  split
  ·exact .inr rfl
  ·exact anY file cs _
theorem agk (file:Nat):∀(a:List (List Int)) (b:List (List Int)) (st:Dm.Ds),(wgo file st a).1=6→wgo file st (a++b)=wgo file st a
 |[],b,st,h=>by simp[wgo]at h
 |c::a,b,st,h=>by
  rw[List.cons_append,wgo]
  rw[wgo]at h⊢
  split
  ·rfl
  ·rename_i ho
   rw[if_neg ho]at h
   exact agk file a b _ h
theorem af8 (file:Nat)(c:List Int):∀(a:List (List Int)) (st:Dm.Ds),(wgo file st a).1=0→wgo file st (a++[c])=if Dm.off (wgo file st a).2 then(6,Dm.iK (wgo file st a).2)else(0,Dm.push (Dm.cO (wgo file st a).2) ⟨file,false,0,c⟩)
 |[],st,h=>rfl
 |d::a,st,h=>by
  rw[List.cons_append,wgo]
  rw[wgo]at h⊢
  split
  ·rename_i ho
   rw[if_pos ho]at h
   simp at h
  ·rename_i ho
   rw[if_neg ho]at h
   exact af8 file c a _ h
theorem ahL (file:Nat):∀(a:List (List Int)) (st:Dm.Ds),(wgo file st a).2.wait.length≤st.wait.length+a.length∧(wgo file st a).2.count≤st.count+a.length∧(wgo file st a).2.left≤st.left
 |[],st=>by simp[wgo]
 |c::a,st=>by
  rw[wgo]
  split
  ·simp[Dm.iK]
  ·obtain⟨h1,h2,h3⟩:=ahL file a (Dm.push (Dm.cO st) ⟨file,false,0,c⟩)
   have e1:(Dm.push (Dm.cO st) ⟨file,false,0,c⟩).wait.length=st.wait.length+1:=by simp[Dm.push,Dm.cO]
   have e2:(Dm.push (Dm.cO st) ⟨file,false,0,c⟩).count=st.count+1:=rfl
   have e3:(Dm.push (Dm.cO st) ⟨file,false,0,c⟩).left≤st.left:=by simp only[Dm.push,Dm.cO];split<;>omega
   rw[List.length_cons]
   refine⟨by omega,by omega,by omega⟩
def pieces:Nat→List Int→List (List Int)
 |0,_=>[]
 |n+1,bs=>if bs=[]then []else bs.take 64::pieces n (bs.drop 64)
theorem abr (file:Nat):∀(n:Nat) (st:Dm.Ds) (bs:List Int),Dm.wrt file n st bs=wgo file st (pieces n bs)
 |0,st,bs=>rfl
 |n+1,st,bs=>by
  rw[Dm.wrt,pieces]
  by_cases h:bs=[]
  ·rw[if_pos h,if_pos h];rfl
  ·rw[if_neg h,if_neg h,wgo]
   split
   ·rfl
   ·exact abr file n _ _
def ck (bs:List Int) (i:Nat):List Int:=(bs.drop (i*64)).take 64
theorem yX:∀(n:Nat) (bs:List Int),bs.length≤n→pieces n bs=(List.range (cnt bs.length)).map (ck bs)
 |0,bs,h=>by
  have:bs.length=0:=by omega
  rw[this]
  rfl
 |n+1,bs,h=>by
  rw[pieces]
  by_cases hb:bs=[]
  ·subst hb;rfl
  ·rw[if_neg hb]
   have h1:0<bs.length:=List.length_pos_iff.2 hb
   have e:cnt bs.length=cnt (bs.drop 64).length+1:=by rw[List.length_drop];unfold cnt;omega
   rw[e,List.range_succ_eq_map,List.map_cons,List.map_map,yX n (bs.drop 64) (by rw[List.length_drop];omega)]
   congr 1
   apply List.map_congr_left
   intro i _
   simp only[ck,Function.comp,List.drop_drop]
   congr 2
   omega
theorem amu (L:Nat)(f:Nat→List Int):∀k,k≤cnt L→(up L k).map (fun x=>f x.1)=(List.range k).map f
 |0,_=>rfl
 |k+1,h=>by
  have h1:k*64<L:=by unfold cnt at h;omega
  rw[qJ L k h1,List.map_append,amu L f k (by omega),List.range_succ,List.map_append]
  rfl
def kg (bs:List Int) {L:Nat} (pre:List (Cx L)):List (List Int):=pre.map fun x=>ck bs x.1
theorem aqe (bs:List Int){L:Nat}(pre:List (Cx L))(x:Cx L):kg bs (pre++[x])=kg bs pre++[ck bs x.1]:=by simp[kg]
theorem adL (bs:List Int):kg bs (up bs.length (cnt bs.length))=pieces bs.length bs:=by
 unfold kg
 rw[amu _ _ _ (Nat.le_refl _),yX _ _ (Nat.le_refl _)]
theorem anz (L k:Nat):∀j,∃r,up L (k+j)=up L k++r
 |0=>⟨[],by simp⟩
 |j+1=>by
  obtain⟨r,hr⟩:=anz L k j
  exact⟨r++(if h:(k+j)*64<L then [⟨k+j,h⟩]else []),by rw[←Nat.add_assoc,up,hr,List.append_assoc]⟩
theorem xR (bs:List Int)(i:Nat):(ck bs i).length=min 64 (bs.length-i*64):=by simp[ck]
theorem azX {W:World}{b off cap:Nat}{bs:List Int}(h:Is .u8 W (.slice (some ⟨b,off,none⟩) bs.length cap) bs)(i:Nat)(hi:i*64<bs.length):Is .u8 W (yG b off bs.length i) (ck bs i):=by
 have hs:=h.sub (i*64) (i*64+min 64 (bs.length-i*64)) (by omega) (by omega)
 have e1:i*64+min 64 (bs.length-i*64)-i*64=min 64 (bs.length-i*64):=by omega
 rw[e1]at hs
 have e2:(bs.drop (i*64)).take (min 64 (bs.length-i*64))=ck bs i:=by
  unfold ck
  by_cases h1:64≤bs.length-i*64
  ·rw[Nat.min_eq_left h1]
  ·rw[Nat.min_eq_right (by omega),List.take_of_length_le (by rw[List.length_drop];omega),List.take_of_length_le (by rw[List.length_drop];omega)]
 rw[e2]at hs
 obtain⟨b',off',cap',hv,h1,h2,_,hc⟩:=hs.full (by rw[xR];omega)
 simp only[Value.slice.injEq,Option.some.injEq,Addr.mk.injEq,and_true]at hv
 obtain⟨⟨rfl,rfl⟩,hl,rfl⟩:=hv
 refine⟨hs.1,.inr ⟨⟨b,off+i*64,none⟩,min 64 (bs.length-i*64),by rw[xR];rfl,by rw[xR];exact Nat.le_refl _,by unfold maxLen;omega,fun j hj=>?_⟩⟩
 rw[fD]
 exact hc j hj
theorem KeepsOthers.axd {F:Nat→Prop}{W W':World}(h:Out F W W')(hc:∀g,F g→∃cs t fr,W.heap[g]? =some (.cells cs t fr)):KeepsOthers W W':=
 ⟨h.size,fun k o hk ho=>by
  refine(h.block k (Array.getElem?_eq_some_iff.1 hk).1 fun hF=>?_).trans hk
  obtain⟨cs,t,fr,h1⟩:=hc k hF
  rw[hk]at h1
  cases h1
  simp[Obj.isCells]at ho⟩
def WI (p:Nat) (F:Nat→Prop) (W0:World) (st:Dm.Ds) (f:Nat) (bs:List Int) (e:Int) (G:Nat→Prop) (pre:List (Cx bs.length)) (W:World):Prop:=
 ∃F',Pk p F' W (wgo f st (kg bs pre)).2∧(wgo f st (kg bs pre)).1=e∧Out G W0 W∧∀g,F' g→F g∨W0.heap.size≤g
theorem WI.own {p:Nat}{F:Nat→Prop}{W0:World}{st:Dm.Ds}{f:Nat}{bs:List Int}{e:Int}{G:Nat→Prop}:OwnFrom W0.heap.size (WI p F W0 st f bs e G):=by
 rintro s W W' row ⟨F',hP,he,hO,hs⟩ hg hr
 refine⟨F',hP.agree fun g hgF=>?_,he,?_,hs⟩
 ·refine hg.block g (hP.lt g hgF) fun e1=>?_
  obtain⟨_,o,ho,hoc⟩:=hr g e1.symm
  obtain⟨cs,t,fr,h1⟩:=hP.xN g hgF
  rw[ho]at h1
  cases h1
  simp[Obj.isCells]at hoc
 ·exact hO.trans (Out.aT (F:=fun g=>row=some g) hg fun g h=>h) fun g h=>.inr (hr g h).1
theorem aix {W W':World}(h:Below W.heap.size W W'):KeepsOthers W W':=⟨h.size,fun k o hk ho=>(h.block k (Array.getElem?_eq_some_iff.1 hk).1).trans hk⟩
theorem arb (p:Nat)(F:Nat→Prop)(W0:World)(st:Dm.Ds)(f:Nat)(hf:f<4)(bs:List Int)(hF:∀g,F g→g<W0.heap.size)(pre:List (Cx bs.length))(x:Cx bs.length)(W:World)(hI:WI p F W0 st f bs 0 F pre W)(hlt:pre.length<cnt bs.length)
  (hw:st.wait.length+cnt bs.length≤1000000) (hl:st.left≤9223372036854775807) (hc:st.count+cnt bs.length<9223372036854775807) (v1:Value) (w1:World) (bJ:Own .u8 5 W.heap.size w1 v1 (ck bs x.1)) (ax:Below W.heap.size W w1):
  Calls Tryz.prog 104 #[.pointer (some ⟨p,0,none⟩),.agg #[.int .i64 0,.int .i64 f,v1,.int .i64 0]] w1 fun E w2=>E=.returned (.int .i64 (wgo f st (kg bs (pre++[x]))).1)∧WI p F W0 st f bs (wgo f st (kg bs (pre++[x]))).1 F (pre++[x]) w2∧KeepsOthers W w2∧∀B,B<W0.heap.size→¬F B→w2.heap[B]? =W.heap[B]? :=by
 obtain⟨F',hP,he,hO,hs⟩:=hI
 obtain⟨z1,z2,z3⟩:=ahL f (kg bs pre) st
 have hcl:(kg bs pre).length=pre.length:=by simp[kg]
 have hx:=x.2
 have hcx:=xR bs x.1
 refine(abW p F' w1 _ ⟨f,false,0,v1,ck bs x.1⟩ (hP.below ax) ⟨bJ.is,fun b hb=>⟨trivial,by obtain⟨cs,h1⟩:=bJ.type hb;exact⟨cs,_,h1⟩⟩⟩ (fun b hb hFb=>by have h1:=(bJ.block b hb).1;have h2:=hP.lt b hFb;omega) ⟨hf,fun h=>by simp[Rv.r]at h,fun _=>by show 1≤(ck bs x.1).length∧(ck bs x.1).length≤64;omega⟩ (by omega) (by omega) (by omega)).mono ?_
 rintro E w2 ⟨rfl,F2,h1,h2,h3⟩
 have hsn:=af8 f (ck bs x.1) (kg bs pre) st he
 rw[←aqe,ady]at hsn
 have e1:(wgo f st (kg bs (pre++[x]))).1=if Dm.off (wgo f st (kg bs pre)).2 then 6 else 0:=by rw[hsn]
 have e2:(wgo f st (kg bs (pre++[x]))).2=if Dm.off (wgo f st (kg bs pre)).2 then Dm.iK (wgo f st (kg bs pre)).2 else Dm.push (Dm.cO (wgo f st (kg bs pre)).2) ⟨f,false,0,ck bs x.1⟩:=by rw[hsn]
 have hO1:Out F W0 w1:=hO.trans (Out.of_below (F:=F) ax) fun g hg=>.inl hg
 refine⟨by rw[e1],⟨F2,by rw[e2];exact h1,rfl,hO1.trans h2 hs,fun g hg=>?_⟩,(aix ax).trans (KeepsOthers.axd h2 (hP.below ax).xN),fun B hB hFB=>?_⟩
 ·rcases h3 g hg with h|h|h
  ·exact hs g h
  ·exact .inr (Nat.le_trans hO1.size h)
  ·exact .inr (Nat.le_trans hO.size (bJ.block g h).1)
 ·refine(h2.block B (Nat.lt_of_lt_of_le hB hO1.size) fun h=>?_).trans (ax.block B (Nat.lt_of_lt_of_le hB hO.size))
  rcases hs B h with h4|h4
  ·exact hFB h4
  ·omega
theorem Tryz.mixed:Tryz.prog.follows .mixedOrders=true:=by kernel_rfl
theorem anM (n:Nat)(hn:1≤n)(Bs Bn b off cap:Nat)(bs:List Int)(sv:Value)(hsv:sv=.slice (some ⟨b,off,none⟩) bs.length cap∨(bs.length=0∧∃ao c,sv=.slice ao 0 c))(hcap:bs.length≤cap)(hcm:cap≤maxLen)(sU:bs.length≤140737488355328)(w:World)(hs:Bs<w.heap.size)(hb:Bn<w.heap.size)(cs:w.cell? ⟨Bs,0,none⟩=some sv)(cn:w.cell? ⟨Bn,0,none⟩=some (.int .i64 64)):
  SeqStopsK Fence.wide n Tryz.prog 152 #[.pointer (some ⟨Bs,0,none⟩),.pointer (some ⟨Bn,0,none⟩)] (fun x:Cx bs.length=>#[yG b off bs.length x.1]) (Kc Bs Bn) (fun xs=>xs=up bs.length (cnt bs.length)) (fun pre=>∃k,k≤cnt bs.length∧pre=up bs.length k) (cnt bs.length) w:=fun l J Jx W hW hJ hJx hY h0=>
 amV n hn l Bs Bn b off bs.length cap sv hsv hcap hcm sU J Jx W hJ hY ((hW.cell (p:=⟨Bs,0,none⟩) hs).trans cs) ((hW.cell (p:=⟨Bn,0,none⟩) hb).trans cn) h0
theorem aBf {Bs Bn:Nat}{w:World}(h1:Bs<w.heap.size)(h2:Bn<w.heap.size)(W:World)(l:Nat)(o o':Obj)(hl:w.heap.size≤l)(h:W.heap[l]? =some o)(_:o.isCells=false)(_:o.isWalk=false):Kc Bs Bn W (W.putObj l o'):=
 ⟨World.putObj_heap_other (by omega),World.putObj_heap_other (by omega)⟩
theorem ad6 {p:Nat}{F:Nat→Prop}{w W0 W:World}{st:Dm.Ds}{f:Nat}{bs:List Int}{e:Int}{pre:List (Cx bs.length)}{G:Nat→Prop}(aF:Below w.heap.size w W0)(hF:∀g,F g→g<w.heap.size)(hG:∀g,G g→F g∨w.heap.size≤g)(h:WI p F W0 st f bs e G pre W){W2:World}(F2:Nat→Prop)(hO:Out F2 W W2)(hF2:∀g,F2 g→w.heap.size≤g)(hF3:∀g,F2 g→W0.heap.size≤g→∃o:Obj,W.heap[g]? =some o∧o.isCells=false):
  aP p F w W2 (wgo f st (kg bs pre)).2:=by
 obtain⟨F',hP,he,hO1,hs⟩:=h
 refine⟨F',hP.agree fun g hg=>hO.block g (hP.lt g hg) fun h2=>?_,?_,fun g hg=>?_⟩
 ·rcases hs g hg with h3|h3
  ·have:=hF g h3;have:=hF2 g h2;omega
  ·obtain⟨o,h4,h5⟩:=hF3 g h2 h3
   obtain⟨cs,t,fr,h6⟩:=hP.xN g hg
   rw[h4]at h6
   cases h6
   simp[Obj.isCells]at h5
 ·have q1:Out F w W:=(Out.of_below (F:=F) aF).trans hO1 hG
  exact q1.trans hO fun g hg=>.inr (hF2 g hg)
 ·rcases hs g hg with h3|h3
  ·exact .inl h3
  ·exact .inr (Nat.le_trans aF.size h3)
theorem auM (p:Nat)(F:Nat→Prop)(w:World)(st:Dm.Ds)(f:Nat)(hf:f<4)(vb:Value)(bs:List Int)(h:Pk p F w st)(hon:st.on=true)(hb:Is .u8 w vb bs)(hbF:0<bs.length→∀b,vb.ownBlock=some b→¬F b)(sU:bs.length≤1000000)
  (hw:st.wait.length+cnt bs.length≤1000000) (hl:st.left≤9223372036854775807) (hc:st.count+cnt bs.length<9223372036854775807):
  Calls Tryz.prog 37 #[.pointer (some ⟨p,0,none⟩),.int .i64 f,vb] w fun E w'=>E=.returned (.int .i64 (wgo f st (pieces bs.length bs)).1)∧aP p F w w' (wgo f st (pieces bs.length bs)).2:=by
 obtain⟨b,off,cap,hsv,hcap,hcm⟩:∃b off cap,(vb=.slice (some ⟨b,off,none⟩) bs.length cap∨(bs.length=0∧∃ao c,vb=.slice ao 0 c))∧bs.length≤cap∧cap≤maxLen:=by
  by_cases h0:0<bs.length
  ·obtain⟨b,off,cap,h1,h2,h3,_⟩:=hb.full h0
   exact⟨b,off,cap,.inl h1,h2,h3⟩
  ·obtain⟨ao,cap,h1,h2,h3⟩:=hb.shape
   have h4:bs.length=0:=by omega
   exact⟨0,0,cap,.inr ⟨h4,ao,cap,by rw[h1,h4]⟩,h2,h3⟩
 obtain⟨w1,hw1,bH,ax,B1⟩:=ay w #[.pointer (some ⟨p,0,none⟩)] 23
 obtain⟨w2,hw2,fA,aB,B2⟩:=ay w1 #[.int .i64 f] 3
 obtain⟨w3,hw3,fZ,aH,B3⟩:=ay w2 #[.int .i64 0] 26
 obtain⟨w4,hw4,pK,aS,B4⟩:=ay w3 #[vb] 71
 obtain⟨W0,kL,pq,aX,B5⟩:=ay w4 #[.int .i64 64] 3
 rw[bH]at B2 aB
 rw[show w2.heap.size=w.heap.size+2 by omega]at B3 aH
 rw[show w3.heap.size=w.heap.size+3 by omega]at B4 aS
 rw[show w4.heap.size=w.heap.size+4 by omega]at B5 aX
 have bP:Below w.heap.size w w3:=(ax.trans (aB.mono (by omega))).trans (aH.mono (by omega))
 have dx:Below w.heap.size w W0:=(bP.trans (aS.mono (by omega))).trans (aX.mono (by omega))
 have HR:=hide (jk p F w3 st (h.below bP))
 have HF:=hide (qy f w3)
 have hin:Dm.iV (f:Int)=true:=by simp[Dm.iV];omega
 rw[hin]at HF
 have hform:=hb.form
 have HCH:Hid (Calls Tryz.prog 103 #[vb,.int .i64 64] w3 fun e w'=>e=.returned (.func (.func 152) #[] #[.pointer (some ⟨w.heap.size+3,0,none⟩),.pointer (some ⟨w.heap.size+4,0,none⟩)])∧W0=w'):=hide (by
  refine(alR vb hform w3).mono ?_
  rintro e w' ⟨rfl,rfl⟩
  rw[show w3.heap.size=w.heap.size+3 by omega]
  exact⟨rfl,by rw[hw4,kL]⟩)
 have hFw:=h.lt
 have I0:Hid (WI p F W0 st f bs 0 F [] W0):=hide ⟨F,h.below dx,rfl,Out.refl _ _,fun g hg=>.inl hg⟩
 have C0:w3.cell? ⟨w.heap.size,0,none⟩=some (.pointer (some ⟨p,0,none⟩)):=by
  have e1:=(aB.block w.heap.size (by omega)).trans B1
  exact ai ((aH.block w.heap.size (by omega)).trans e1) 0 rfl
 have C1:w3.cell? ⟨w.heap.size+1,0,none⟩=some (.int .i64 f):=ai ((aH.block (w.heap.size+1) (by omega)).trans B2) 0 rfl
 have D0:W0.heap[w.heap.size]? =some (.cells #[.pointer (some ⟨p,0,none⟩)] 23 (0,0)):=(aX.block _ (by omega)).trans ((aS.block _ (by omega)).trans ((aH.block _ (by omega)).trans ((aB.block _ (by omega)).trans B1)))
 have D1:W0.heap[w.heap.size+1]? =some (.cells #[.int .i64 f] 3 (0,0)):=(aX.block _ (by omega)).trans ((aS.block _ (by omega)).trans ((aH.block _ (by omega)).trans B2))
 have D2:W0.heap[w.heap.size+2]? =some (.cells #[.int .i64 0] 26 (0,0)):=(aX.block _ (by omega)).trans ((aS.block _ (by omega)).trans B3)
 have D3:W0.heap[w.heap.size+3]? =some (.cells #[vb] 71 (0,0)):=(aX.block _ (by omega)).trans B4
 have axk:∀W,Out F W0 W→Is .u8 W vb bs:=fun W hO=>by
  by_cases h0:0<bs.length
  ·have h1:=hb.lt h0
   refine(hb.below dx).agree fun g hg=>hO.block g (Nat.lt_of_lt_of_le (h1 g hg) dx.size) (hbF h0 g hg)
  ·refine⟨hb.1,?_⟩
   rcases hb.2 with h1|⟨ad,cp,h1,h2,h3,_⟩
   ·exact .inl h1
   ·exact .inr ⟨ad,cp,h1,h2,h3,fun i hi=>by omega⟩
 have HIB:=hide axk
 have as4:∀W,Out F W0 W→∀B,w.heap.size≤B→B<W0.heap.size→W.heap[B]? =W0.heap[B]? :=fun W hO B h1 h2=>hO.block B h2 fun h3=>by have:=hFw B h3;omega
 have HST:=hide as4
 have hk:=oJ hon
 have SEQ:=hide (anM 5 (by omega) (w.heap.size+3) (w.heap.size+4) b off cap bs vb hsv hcap hcm (by omega) W0 (by omega) (by omega) (ai D3 0 rfl) (ai B5 0 rfl))
 have HW:Hid (∀g,F g→g<w.heap.size):=hide hFw
 have hmx:=Tryz.mixed
 replace fA:w2.heap.size=w.heap.size+2:=by omega
 replace fZ:w3.heap.size=w.heap.size+3:=by omega
 replace pq:W0.heap.size=w.heap.size+5:=by omega
 obtain⟨va,vn,vc,hvf⟩:=hform
 have HVF:=hide hvf
 have yU:=hide hsv
 have DD:=hide (And.intro D0 (And.intro D1 D2))
 clear h hb hsv D3 B1 B2 B3 B4 B5 axk as4 hFw hbF D0 D1 D2 hw4 kL pK aS aX hvf
 refine(callsIn_wide (n:=6)).1 ?_
 refine callsIn_of_wp_marks Tryz.func37 rfl trivial ?_ rfl
 simp only[Tryz.ntmps37,List.size_toArray,List.length_cons,List.length_nil,Nat.reduceAdd,Nat.reduceSub,Array.replicate_succ,Array.replicate_zero,List.push_toArray,List.append_toArray,List.nil_append,List.cons_append]
 gi_wp2_with fail
 refine⟨trivial,(callsIn_wide.2 HR.out).mono ?_⟩
 rintro E w' ⟨rfl,rfl⟩
 rw[hk]
 gi_wp2_with fail
 refine⟨trivial,(callsIn_wide.2 HF.out).mono ?_⟩
 rintro E w' ⟨rfl,rfl⟩
 gi_wp2_with fail
 refine⟨trivial,(callsIn_wide.2 HCH.out).mono ?_⟩
 rintro E w' ⟨rfl,rfl⟩
 clear hw1 hw2 hw3 C0 C1
 gi_wp2_with fail
 refine wpIn_rangeFunc_ownF rfl (by omega) (gf:=152) (lb:=#[.pointer (some ⟨w.heap.size+3,0,none⟩),.pointer (some ⟨w.heap.size+4,0,none⟩)]) rfl trivial (enters_of Tryz.func152 (by kernel_rfl) rfl) SEQ.out Kc.trans (aBf (by omega) (by omega)) (Below.refl _ _) (fun _=>rfl)
  (WI p F W0 st f bs 0 F)
  (fun c pre W=>(c=.ret∧W.heap[w.heap.size+2]? =some (.cells #[.int .i64 6] 26 (0,0)))∧WI p F W0 st f bs 6 (fun g=>F g∨g=w.heap.size+2) pre W)
  WI.own
  (fun c=>OwnFrom.and (fun s A B row hs hg hr=>⟨hs.1,(hg.block (w.heap.size+2) (aA hs.2) fun e=>by have:=(hr _ e.symm).1;omega).trans hs.2⟩) WI.own)
  I0.out
  (fun x=>{tmps:=#[.pointer (some ⟨p,0,none⟩),.int .i64 f,vb,.pointer (some ⟨w.heap.size,0,none⟩),.pointer (some ⟨w.heap.size+1,0,none⟩),undef,.pointer (some ⟨w.heap.size+2,0,none⟩),.int .i64 0,yG b off bs.length x.1,undef,.pointer (some ⟨p,0,none⟩),.int .i64 0,.int .i64 0,.bool false,undef,.int .i64 f,.bool true,.bool false,vb,.func (.func 152) #[] #[.pointer (some ⟨w.heap.size+3,0,none⟩),.pointer (some ⟨w.heap.size+4,0,none⟩)],yG b off bs.length x.1,undef,undef,undef,undef,undef,undef,undef,undef,undef],defers:=[]}) ?assign ?body ?done ?stop
 case assign=>
  intro l x W K hK
  gi_wp2
  exact hK
 case body=>
  rintro l pre x W hI hlt
  have kP:Out F W0 W:=by
   obtain⟨_,_,_,h1,_⟩:=hI
   exact h1
  have g0:=(HST.out W kP w.heap.size (by omega) (by omega)).trans DD.out.1
  have g1:=(HST.out W kP (w.heap.size+1) (by omega) (by omega)).trans DD.out.2.1
  have eR:=(HST.out W kP (w.heap.size+2) (by omega) (by omega)).trans DD.out.2.2
  have x0:W.cell? ⟨w.heap.size,0,none⟩=some (.pointer (some ⟨p,0,none⟩)):=ai g0 0 rfl
  have x1:W.cell? ⟨w.heap.size+1,0,none⟩=some (.int .i64 f):=ai g1 0 rfl
  have hvb:vb=.slice (some ⟨b,off,none⟩) bs.length cap:=by
   rcases yU.out with h1|⟨h1,_⟩
   ·exact h1
   ·have:=x.2;omega
  have isx:Is .u8 W (yG b off bs.length x.1) (ck bs x.1):=azX (by rw[←hvb];exact HIB.out W kP) x.1 x.2
  have hW0:=kP.size
  have HC:Hid (Calls Tryz.prog 105 #[yG b off bs.length x.1] W.drew fun E w1=>∃v1,E=.returned v1∧Own .u8 5 W.heap.size w1 v1 (ck bs x.1)∧Below W.heap.size W w1∧w1.cell? ⟨w.heap.size,0,none⟩=some (.pointer (some ⟨p,0,none⟩))∧w1.cell? ⟨w.heap.size+1,0,none⟩=some (.int .i64 f)):=hide (by
   refine(vN _ _ W.drew (isx.drewN 1) (by rw[xR];omega)).mono ?_
   rintro E w1 ⟨v1,rfl,bJ,ax⟩
   have aj0:Below W.heap.size W w1:=(below_drewN (Below.refl _ _) 1).trans ax
   exact⟨v1,rfl,bJ,aj0,(aj0.cell (p:=⟨w.heap.size,0,none⟩) (by show w.heap.size<W.heap.size;omega)).trans x0,(aj0.cell (p:=⟨w.heap.size+1,0,none⟩) (by show w.heap.size+1<W.heap.size;omega)).trans x1⟩)
  have HDO:=hide (arb p F W0 st f hf bs (fun g hg=>by have:=HW.out g hg;omega) pre x W hI hlt hw hl hc)
  have hd1:1≤6-1-1:=by omega
  have HeR:=hide eR
  have HOUT:=hide kP
  clear hI g0 g1 isx hvb eR kP
  rcases anY f (kg bs (pre++[x])) st with he|he
  ·have eR:=HeR.out
   rw[he]at HDO
   gi_wp2_with fail
   gi_region_with_o (first
    |(refine⟨trivial,?_⟩;gi_at_call 105;refine(CallsIn.inRound l (callsIn_wide.2 HC.out)).mono ?_;rintro E w1 ⟨v1,rfl,bJ,ax,y0,y1⟩;obtain⟨a1,k1,hv1,_,_⟩:=bJ.is.shape;subst hv1;have HOW:=hide bJ)
    |(refine⟨trivial,?_⟩;gi_at_call 104;refine(CallsIn.inRound l (callsIn_wide.2 (HDO.out _ _ HOW.out ax))).mono ?_;rintro E w2 ⟨rfl,J,KO,KB⟩;have J:=hide J;have z2:=(KB (w.heap.size+2) (by omega) (fun h3=>by have:=HW.out _ h3;omega)).trans eR;have cz2:w2.cell? ⟨w.heap.size+2,0,none⟩=some (.int .i64 0):=ai z2 0 rfl;have fz2:=az z2 0;have HKB:=hide KB;clear KB))
   all_goals gi_wp2
   all_goals
    have k1:=HKB.out (w.heap.size+3) (by omega) (fun h3=>by have:=HW.out _ h3;omega)
    have k2:=HKB.out (w.heap.size+4) (by omega) (fun h3=>by have:=HW.out _ h3;omega)
    exact⟨KO,⟨k1,k2⟩,J.out⟩
  ·have eR:=HeR.out
   rw[he]at HDO
   gi_wp2_with fail
   gi_region_with_o (first
    |(refine⟨trivial,?_⟩;gi_at_call 105;refine(CallsIn.inRound l (callsIn_wide.2 HC.out)).mono ?_;rintro E w1 ⟨v1,rfl,bJ,ax,y0,y1⟩;obtain⟨a1,k1,hv1,_,_⟩:=bJ.is.shape;subst hv1;have HOW:=hide bJ)
    |(refine⟨trivial,?_⟩;gi_at_call 104;refine(CallsIn.inRound l (callsIn_wide.2 (HDO.out _ _ HOW.out ax))).mono ?_;rintro E w2 ⟨rfl,J,KO,KB⟩;have J:=hide J;have z2:=(KB (w.heap.size+2) (by omega) (fun h3=>by have:=HW.out _ h3;omega)).trans eR;have cz2:w2.cell? ⟨w.heap.size+2,0,none⟩=some (.int .i64 0):=ai z2 0 rfl;have fz2:=az z2 0;have HKB:=hide KB;clear KB))
   all_goals gi_wp2
   all_goals
    refine⟨KO.trans (KeepsOthers.setCell _ _ _),⟨rfl,by rw[aL z2];rfl⟩,?_⟩
    obtain⟨F',j1,j2,j3,j4⟩:=J.out
    have hnF:¬F' (w.heap.size+2):=fun h3=>by
     rcases j4 _ h3 with h4|h4
     ·have:=HW.out _ h4;omega
     ·omega
    have so:Out (fun g=>g=w.heap.size+2) w2 (w2.setCell ⟨w.heap.size+2,0,none⟩ (.int .i64 6)):=Out.aT (aC w2 ⟨w.heap.size+2,0,none⟩ _) fun g hg=>by simp at hg;exact hg.symm
    exact⟨F',j1.out so (fun g hg h5=>hnF (h5▸hg)),j2,(j3.mono (G:=fun g=>F g∨g=w.heap.size+2) fun g hg=>.inl (.inl hg)).trans so fun g hg=>.inl (.inr hg),j4⟩
 case done=>
  rintro D xs W hD rfl hI hK
  have kP:Out F W0 W:=by
   obtain⟨_,_,_,h1,_⟩:=hI
   exact h1
  have eR:=(HST.out W kP (w.heap.size+2) (by omega) (by omega)).trans DD.out.2.2
  have cR:W.cell? ⟨w.heap.size+2,0,none⟩=some (.int .i64 0):=ai eR 0 rfl
  have fR:=az eR 0
  have HI:=hide hI
  have HK:=hide hK
  have HeR:=hide eR
  clear hI eR
  gi_wp2
  have hK':=(KeepsOthers.setCell W ⟨w.heap.size+2,0,none⟩ (.int .i64 0)).same D _ HK.out rfl
  refine⟨by simp,.inl ⟨_,_,rfl,run_takeDeferred hK',?_⟩⟩
  have hc5:=cell_kept (World.cell?_setCell_same' W ⟨w.heap.size+2,0,none⟩ (.int .i64 0) (by rw[cR];rfl)) (grownBy_putObj' _ D (.deferred none)) (fun r e=>by cases e;exact⟨_,hK',rfl⟩)
  have hend:=ad6 dx HW.out (fun g hg=>.inl hg) HI.out (fun g=>g=w.heap.size+2∨g=D) ((Out.aT (F:=fun g=>g=w.heap.size+2∨g=D) (aC W ⟨w.heap.size+2,0,none⟩ (.int .i64 0)) fun g hg=>.inl (by simp at hg;exact hg.symm)).trans (Out.aT (F:=fun g=>g=w.heap.size+2∨g=D) (grownBy_putObj' _ D (.deferred none)) fun g hg=>.inr (by simp at hg;exact hg.symm)) fun g hg=>.inl hg) (fun g hg=>by rcases hg with h|h<;>omega) (fun g hg h2=>by
   rcases hg with h|h
   ·omega
   ·exact⟨_,by rw[h];exact HK.out,rfl⟩)
  have he:(wgo f st (pieces bs.length bs)).1=0:=by
   obtain⟨_,_,h1,_⟩:=HI.out
   rw[adL]at h1
   exact h1
  rw[adL]at hend
  refine⟨.int .i64 0,?_,by rw[he],hend⟩
  simp[results,Tryz.results37,go_sem,hc5]
 case stop=>
  rintro D c pre W hD ⟨k,hk2,rfl⟩ ⟨⟨rfl,eR⟩,hI⟩ hK
  have HI:=hide hI
  have HK:=hide hK
  have cR:W.cell? ⟨w.heap.size+2,0,none⟩=some (.int .i64 6):=ai eR 0 rfl
  clear hI eR
  gi_wp2
  refine⟨by simp,.inl ⟨_,_,rfl,run_takeDeferred HK.out,?_⟩⟩
  have hc5:=cell_kept cR (grownBy_putObj' _ D (.deferred none)) (fun r e=>by cases e;exact⟨_,HK.out,rfl⟩)
  have hend:=ad6 dx HW.out (fun g hg=>by rcases hg with h|h;exact .inl h;exact .inr (by omega)) HI.out (fun g=>g=D) (Out.aT (F:=fun g=>g=D) (grownBy_putObj' _ D (.deferred none)) fun g hg=>by simp at hg;exact hg.symm) (fun g hg=>by omega) (fun g hg h2=>⟨.deferred (some []),by rw[hg];exact HK.out,rfl⟩)
  obtain⟨r,hr⟩:∃r,up bs.length (cnt bs.length)=up bs.length k++r:=by
   obtain⟨r,hr⟩:=anz bs.length k (cnt bs.length-k)
   rw[show k+(cnt bs.length-k)=cnt bs.length by omega]at hr
   exact⟨r,hr⟩
  have h6:(wgo f st (kg bs (up bs.length k))).1=6:=by
   obtain⟨_,_,h1,_⟩:=HI.out
   exact h1
  have e1:wgo f st (pieces bs.length bs)=wgo f st (kg bs (up bs.length k)):=by
   rw[←adL,hr]
   unfold kg at h6⊢
   rw[List.map_append]
   exact agk f _ _ st h6
  refine⟨.int .i64 6,?_,by rw[e1,h6],by rw[e1];exact hend⟩
  simp[results,Tryz.results37,go_sem,hc5]
end Go.Proofs.YtpifdeoepppadaaGreatDoor
namespace Go.Proofs.YtpifdeoepppadaaGreatDoor
open Go.RowKit Go.Shelf
set_option linter.unusedVariables false
attribute [local go_sem] Oper.semAt_some
theorem tV (p:Nat)(F:Nat→Prop)(w:World)(st:Dm.Ds)(file:Int)(vb:Value)(bs:List Int)(h:Pk p F w st)(hb:Is .u8 w vb bs)(hbF:0<bs.length→∀b,vb.ownBlock=some b→¬F b)(sU:bs.length≤1000000)
  (hw:st.wait.length+cnt bs.length≤1000000) (hl:st.left≤9223372036854775807) (hc:st.count+cnt bs.length<9223372036854775807):
  Calls Tryz.prog 37 #[.pointer (some ⟨p,0,none⟩),.int .i64 file,vb] w fun E w'=>E=.returned (.int .i64 (Dm.write st file bs).1)∧aP p F w w' (Dm.write st file bs).2:=by
 unfold Dm.write
 obtain⟨w1,hw1,bH,ax,B1⟩:=ay w #[.pointer (some ⟨p,0,none⟩)] 23
 obtain⟨w2,hw2,fA,aB,B2⟩:=ay w1 #[.int .i64 file] 3
 obtain⟨w3,hw3,fZ,aH,B3⟩:=ay w2 #[.int .i64 0] 26
 rw[bH]at B2 aB
 rw[show w2.heap.size=w.heap.size+2 by omega]at B3 aH
 have bP:Below w.heap.size w w3:=(ax.trans (aB.mono (by omega))).trans (aH.mono (by omega))
 have HR:=hide (jk p F w3 st (h.below bP))
 have HF:=hide (qy file w3)
 have HK:=hide h
 replace fA:w2.heap.size=w.heap.size+2:=by omega
 replace fZ:w3.heap.size=w.heap.size+3:=by omega
 have C0:w3.cell? ⟨w.heap.size,0,none⟩=some (.pointer (some ⟨p,0,none⟩)):=by
  have e1:=(aB.block w.heap.size (by omega)).trans B1
  exact ai ((aH.block w.heap.size (by omega)).trans e1) 0 rfl
 have C1:w3.cell? ⟨w.heap.size+1,0,none⟩=some (.int .i64 file):=ai ((aH.block (w.heap.size+1) (by omega)).trans B2) 0 rfl
 have C2:w3.cell? ⟨w.heap.size+2,0,none⟩=some (.int .i64 0):=ai B3 0 rfl
 have f2:=az B3 0
 have hend:∀e:Int,Below w.heap.size w (w3.setCell ⟨w.heap.size+2,0,none⟩ (.int .i64 e))∧(w3.setCell ⟨w.heap.size+2,0,none⟩ (.int .i64 e)).cell? ⟨w.heap.size+2,0,none⟩=some (.int .i64 e):=fun e=>
  ⟨bP.grown (aC w3 ⟨w.heap.size+2,0,none⟩ _) (by omega) fun k hk=>by simp at hk;omega,ai (aL B3 0 (.int .i64 e)) 0 (by simp)⟩
 have HE:=hide hend
 cases hon:st.on
 ·rw[if_pos rfl]
  have hk:=nZ hon
  clear h hon hend B1 B2 B3
  refine(callsIn_wide (n:=6)).1 ?_
  refine callsIn_of_wp_marks Tryz.func37 rfl trivial ?_ rfl
  simp only[Tryz.ntmps37,List.size_toArray,List.length_cons,List.length_nil,Nat.reduceAdd,Nat.reduceSub,Array.replicate_succ,Array.replicate_zero,List.push_toArray,List.append_toArray,List.nil_append,List.cons_append]
  gi_wp2_with fail
  refine⟨trivial,(callsIn_wide.2 HR.out).mono ?_⟩
  rintro E w' ⟨rfl,rfl⟩
  rw[hk]
  gi_wp2
  obtain⟨b6,c6⟩:=HE.out 6
  refine⟨.int .i64 6,?_,rfl,aP.same HK.out b6⟩
  simp[results,Tryz.results37,go_sem,c6]
 ·rw[if_neg (by simp)]
  have hk:=oJ hon
  cases hin:Dm.iV file
  ·rw[if_pos rfl]
   rw[hin]at HF
   clear h hon hend B1 B2 B3 hin
   refine(callsIn_wide (n:=6)).1 ?_
   refine callsIn_of_wp_marks Tryz.func37 rfl trivial ?_ rfl
   simp only[Tryz.ntmps37,List.size_toArray,List.length_cons,List.length_nil,Nat.reduceAdd,Nat.reduceSub,Array.replicate_succ,Array.replicate_zero,List.push_toArray,List.append_toArray,List.nil_append,List.cons_append]
   gi_wp2_with fail
   refine⟨trivial,(callsIn_wide.2 HR.out).mono ?_⟩
   rintro E w' ⟨rfl,rfl⟩
   rw[hk]
   gi_wp2_with fail
   refine⟨trivial,(callsIn_wide.2 HF.out).mono ?_⟩
   rintro E w' ⟨rfl,rfl⟩
   gi_wp2
   obtain⟨b6,c6⟩:=HE.out 2
   refine⟨.int .i64 2,?_,rfl,aP.same HK.out b6⟩
   simp[results,Tryz.results37,go_sem,c6]
  ·rw[if_neg (by simp)]
   obtain⟨f,hf,rfl⟩:=adV hin
   rw[Int.toNat_natCast,abr]
   exact auM p F w st f hf vb bs h hon hb hbF sU hw hl hc
end Go.Proofs.YtpifdeoepppadaaGreatDoor
namespace Go.Proofs.YtpifdeoepppadaaGreatDoor
open Go.RowKit
set_option linter.unusedVariables false
def Big (t u:Nat) (st:Dm.Ds):Prop:=Dm.Sz t u st∧st.left≤9223372036854775807
theorem Big.mono {t u t' u':Nat}{st:Dm.Ds}(h:Big t u st)(ht:t≤t')(hu:u≤u'):Big t' u' st:=
 ⟨⟨fun f=>Nat.le_trans (h.1.1 f) ht,Nat.le_trans h.1.2.1 hu,Nat.le_trans h.1.2.2 hu⟩,h.2⟩
theorem uw:Big 0 0 Dm.new:=⟨⟨fun f=>by simp[Dm.new,Dm.bulk],by simp[Dm.new],by simp[Dm.new]⟩,by simp[Dm.new]⟩
theorem xh {t u:Nat}{st:Dm.Ds}(h:Big t u st):Big t u (Dm.iK st):=h
theorem ahw {t u:Nat}{st:Dm.Ds}(h:Big t u st):Big t (u+1) (Dm.cO st):=
 ⟨⟨h.1.1,Nat.le_trans h.1.2.1 (by omega),by show st.count+1≤u+1;have:=h.1.2.2;omega⟩,by show(if st.has then st.left-1 else st.left)≤_;have:=h.2;split<;>omega⟩
theorem ahm {t u:Nat}{st:Dm.Ds}(h:Big t u st)(r:Dm.Rw):Big (t+r.bytes.length) (u+1) (Dm.push (Dm.cO st) r):=by
 have hb:=ahw h
 refine⟨⟨fun f=>?_,?_,hb.1.2.2⟩,hb.2⟩
 ·have h1:=h.1.1 f
  show(st.sure f).length+Dm.bulk (st.wait++[r])≤_
  rw[Dm.vX]
  simp only[Dm.bulk]
  omega
 ·have h1:=h.1.2.1
  show(st.wait++[r]).length≤_
  rw[List.length_append]
  simp only[List.length_cons,List.length_nil]
  omega
theorem ajh (file:Nat):∀(n:Nat) (bs:List Int) (t u:Nat) (st:Dm.Ds),Big t u st→Big (t+bs.length) (u+cnt bs.length) (Dm.wrt file n st bs).2
 |0,bs,t,u,st,h=>h.mono (by omega) (by omega)
 |n+1,bs,t,u,st,h=>by
  rw[Dm.wrt]
  by_cases hb:bs=[]
  ·rw[if_pos hb];exact h.mono (by omega) (by omega)
  ·rw[if_neg hb]
   have h1:0<bs.length:=List.length_pos_iff.2 hb
   split
   ·exact(xh h).mono (by omega) (by omega)
   ·have:=ajh file n (bs.drop 64) _ _ _ (ahm h ⟨file,false,0,bs.take 64⟩)
    refine this.mono ?_ ?_
    ·simp only[List.length_take,List.length_drop];omega
    ·rw[List.length_drop];unfold cnt;omega
theorem mo {t u:Nat}{st:Dm.Ds}(h:Big t u st)(file:Int)(bs:List Int):Big (t+bs.length) (u+cnt bs.length) (Dm.write st file bs).2:=by
 unfold Dm.write
 split
 ·exact h.mono (by omega) (by omega)
 ·split
  ·exact h.mono (by omega) (by omega)
  ·exact ajh _ _ _ _ _ _ h
theorem zz {t u:Nat}{st:Dm.Ds}(h:Big t u st)(file len:Int):Big t (u+1) (Dm.bg st file len).2:=by
 unfold Dm.bg
 split
 ·exact h.mono (by omega) (by omega)
 ·split
  ·exact h.mono (by omega) (by omega)
  ·split
   ·exact h.mono (by omega) (by omega)
   ·split
    ·exact(xh h).mono (by omega) (by omega)
    ·exact ahm h _
theorem am3 {t u:Nat}{st:Dm.Ds}(h:Big t u st):Big t u (Dm.flush st):=
 ⟨⟨fun f=>by
  have h1:=h.1.1 f
  have h2:=zS st.sure st.wait f
  show(Dm.dof st.sure st.wait f).length+0≤t
  omega,Nat.zero_le _,h.1.2.2⟩,h.2⟩
theorem vT {t u:Nat}{st:Dm.Ds}(h:Big t u st):Big t (u+1) (Dm.sync st).2:=by
 unfold Dm.sync
 split
 ·exact h.mono (by omega) (by omega)
 ·split
  ·exact(xh h).mono (by omega) (by omega)
  ·exact am3 (ahw h)
theorem aot {t u:Nat}{st:Dm.Ds}(h:Big t u st):Big t u (Dm.pull st).2:=by
 unfold Dm.pull
 split
 ·exact h
 ·exact h
theorem aoT (st:Dm.Ds)(k t f:Nat):(Dm.kept st k t f).length≤(st.sure f).length+Dm.bulk st.wait:=by
 have h1:=zS st.sure (st.wait.take k) f
 have h2:=zg st.wait k
 unfold Dm.kept
 cases hr:st.wait[k]? with
 |none=>simp only[];omega
 |some r=>
  have h3:=ado hr
  by_cases hc:r.cut=true
  ·simp only[hc,if_true];omega
  ·simp only[hc]
   unfold Dm.one Dm.upd Dm.iC
   simp only[Bool.false_eq_true,if_false]
   by_cases e:f=r.file
   ·rw[if_pos e,List.length_append,List.length_take,←e];omega
   ·rw[if_neg e];omega
theorem am6 {t u:Nat}{st:Dm.Ds}(h:Big t u st)(k j:Int):Big t u (Dm.start st k j).2:=by
 unfold Dm.start
 split
 ·exact h
 ·refine⟨⟨fun f=>?_,Nat.zero_le _,h.1.2.2⟩,h.2⟩
  have h1:=aoT st k.toNat j.toNat f
  have h2:=h.1.1 f
  show(Dm.kept st k.toNat j.toNat f).length+0≤t
  omega
theorem azh {V:World}{R:Nat}{t:TypeId}{x y z:Value}(hR:V.heap[R]? =some (.cells #[x,y,z] t (0,0)))(c:Value):
  ∃V',V.setCell ⟨R,2,none⟩ c=V'∧V'.heap[R]? =some (.cells #[x,y,c] t (0,0))∧V.grownBy V' (some R)∧V.cell? ⟨R,2,none⟩=some z∧V.frozen? ⟨R,2,none⟩=false:=
 ⟨_,rfl,aL hR 2 c,aC V ⟨R,2,none⟩ c,ai hR 2 rfl,az hR 2⟩
theorem aaH (e n:Int)(v:Value)(l:List Bm.Ov)(w:World)(h:dm w v l)(hl:l.length*40≤140737488351232):
  Calls Tryz.prog 148 #[cZ e n v] w fun E w'=>∃v',E=.returned (cZ e n v')∧aV 106 w.heap.size w' v' l∧Below w.heap.size w w':=by
 unfold cZ
 obtain⟨w1,hw1,bH,ax,hB⟩:=ay w #[.int .i64 e,.int .i64 n,v] 122
 obtain⟨w2,hw2,fA,aB,hR⟩:=ay w1 #[.int .i64 0,.int .i64 0,.slice none 0 0] 122
 rw[bH]at hR
 have hB2:=(aB.block w.heap.size (by omega)).trans hB
 have aY:Below w.heap.size w w2:=ax.trans (aB.mono (by omega))
 have h2:=h.below aY
 obtain⟨ao,cap,rfl,_,_⟩:=h.shape
 have c2:=ai hB2 2 rfl
 have HB:=hide hB2
 have HR:=hide hR
 clear hB hB2 hR ax aB
 go_enter Tryz.func148,Tryz.ntmps148
 go_wp2_with fail
 refine(abN _ l _ h2 hl).mono ?_
 rintro E w3 ⟨v3,rfl,df,aH⟩
 have fZ:=aH.size
 have hB3:=(aH.block w.heap.size (by omega)).trans HB.out
 have j6:=(aH.block (w.heap.size+1) (by omega)).trans HR.out
 have bP:=aY.trans (aH.mono (by omega))
 obtain⟨ah,ch,hvl,_,_⟩:=df.is.shape
 subst hvl
 obtain⟨X,hX,cX,gX,q2,q3⟩:=azh hB3 (.slice ah l.length ch)
 have szX:=gX.size
 have xH:=(gX.block (w.heap.size+1) (by omega) (by simp)).trans j6
 have ag7:=df.qz gX (by omega)
 have acF:=aK bP gX (Nat.le_refl _) (by omega)
 have d0:=ai cX 0 rfl
 have d1:=ai cX 1 rfl
 have d2:=ai cX 2 rfl
 obtain⟨V',hV',ic,dK,⟨a0,a1,a2⟩,⟨f0,f1,f2⟩,⟨z0,z1,z2⟩⟩:=dN xH (.int .i64 e) (.int .i64 n) (.slice ah l.length ch)
 have eO:=aK acF dK (by omega) (by omega)
 have qi:=(ag7.qz dK (by omega)).bz (base':=w.heap.size) (by omega)
 clear HB HR hB3 j6 cX gX xH ic dK df ag7 bP acF aH c2
 go_wp2
 refine bodyPost_ret (v:=.agg #[.int .i64 e,.int .i64 n,.slice ah l.length ch]) (by simp[results,Tryz.results148,go_sem,z0,z1,z2]) rfl ?_
 exact⟨_,rfl,qi,eO⟩
theorem apt {l:List Cm.Cv}{k:Nat}{c:Cm.Cv}(hk:l[k]? =some c)(hl:l.length=k+1)(e:Int):Cm.lastN e l=c.n:=by
 rcases List.eq_nil_or_concat l with rfl|⟨r,d,rfl⟩
 ·simp at hk
 ·rw[List.concat_eq_append]at hk hl⊢
  rw[List.length_append,List.length_singleton]at hl
  obtain rfl:r.length=k:=by omega
  rw[Rl.dX r d e]
  simp at hk
  rw[hk]
theorem ahN (v:Value)(rs:List Cw)(w:World)(h:dZ w v rs)(hl:rs.length≤1048576):
  Calls Tryz.prog 162 #[v] w fun E w'=>E=.returned (.int .i64 (Cm.lastN 0 (aD rs)))∧w=w':=by
 by_cases h0:rs.length=0
 ·have hr:rs=[]:=List.eq_nil_of_length_eq_zero h0
  subst hr
  obtain⟨ao,cap,rfl,_,_⟩:=h.shape
  clear h
  go_enter Tryz.func162,Tryz.ntmps162
  go_wp2
  go_ret
  exact⟨rfl,rfl⟩
 ·obtain⟨k,hk⟩:∃k,rs.length=k+1:=⟨rs.length-1,by omega⟩
  obtain⟨g,off,cap,rfl,_,_,_,hcell⟩:=h.full (by omega)
  obtain⟨c,hck⟩:∃c,rs[k]? =some c:=⟨rs[k]'(by omega),by rw[List.getElem?_eq_getElem]⟩
  obtain⟨_,c1,_⟩:=hcell k c hck
  have hL:Cm.lastN 0 (aD rs)=c.n:=apt (k:=k) (c:=c.c) (by unfold aD;rw[List.getElem?_map,hck];rfl) (by unfold aD;rw[List.length_map];exact hk) 0
  rw[hL,hk]
  have hne:(((k+1:Nat):Int)==0)=false:=by simp;omega
  have hw:IntKind.i64.wrap (((k+1:Nat):Int)-1)=(k:Int):=by rw[aN _ (by omega) (by omega)];omega
  have hk1:(k:Int)<((k+1:Nat):Int):=by omega
  clear h hcell hck hL
  go_enter Tryz.func162,Tryz.ntmps162
  go_wp2
  go_ret
  exact⟨rfl,rfl⟩
theorem yI (v:Value)(rs:List Cw)(e n:Int)(vo:Value)(w:World)(h:dZ w v rs)(hl:rs.length≤1048576)(ho:∃a m k,vo=.slice a m k)(hn:0≤Cm.lastN 0 (aD rs)∧Cm.lastN 0 (aD rs)≤1048576):
  Calls Tryz.prog 177 #[v,cZ e n vo] w fun E w'=>E=.returned (.bool (decide (e-1=Cm.lastN 0 (aD rs))))∧Below w.heap.size w w':=by
 unfold cZ
 obtain⟨w1,hw1,bH,ax,hB⟩:=ay w #[.int .i64 e,.int .i64 n,vo] 122
 have c0:=ai hB 0 rfl
 have HE:Hid (∀m,Calls Tryz.prog 162 #[v] (w1.drewN m) fun E w'=>E=.returned (.int .i64 (Cm.lastN 0 (aD rs)))∧∃q,w'=(w1.drewN m).drewN q):=hide fun m=>
  (ahN v rs (w1.drewN m) ((h.below ax).below (below_drewN (Below.refl _ _) m)) hl).mono fun E w' h=>⟨h.1,0,by rw[←h.2];rfl⟩
 obtain⟨ao,cap,hv,_,_⟩:=h.shape
 obtain⟨a,m,k,rfl⟩:=ho
 generalize Cm.lastN 0 (aD rs)=z at*
 have hw:IntKind.i64.wrap (z+1)=z+1:=aN _ (by omega) (by omega)
 have hd:decide (e-1=z)=(e==z+1):=by
  by_cases h:e-1=z
  ·rw[decide_eq_true h];simp;omega
  ·rw[decide_eq_false h];simp;omega
 rw[hd]
 clear h hB hd
 subst hv
 go_enter Tryz.func177,Tryz.ntmps177
 go_wp2_with fail
 go_quiet ((go_at_call 162;refine Calls.quiet_of (HE.out _)))
 go_wp2
 go_ret
 exact⟨rfl,below_drewN ax _⟩
theorem oM (p q:Nat)(w:World)(u1 u2:Value)(hB:w.heap[p]? =some (.cells #[.pointer (some ⟨q,0,none⟩),u1,u2] 179 (0,0))):
  Calls Tryz.prog 146 #[.pointer (some ⟨p,0,none⟩)] w fun E w'=>E=.returned (.bool true)∧w=w':=by
 have c0:=ai hB 0 rfl
 clear hB
 go_enter Tryz.func146,Tryz.ntmps146
 go_wp2
 go_ret
 exact⟨rfl,rfl⟩
def abg (e n:Int) (l:List Bm.Ov):List Int:=if Rn.aJ e n l=0 then Rl.fr ⟨e,n,l⟩else []
theorem aal (e n:Int)(v:Value)(l:List Bm.Ov)(w:World)(h:dm w v l)(hf:fG l)(hl:l.length≤140737488355328):
  Calls Tryz.prog 176 #[cZ e n v] w fun E w'=>∃vb,E=.returned (.tuple #[vb,.int .i64 (Rn.aJ e n l)])∧Own .u8 5 w.heap.size w' vb (abg e n l)∧Below w.heap.size w w':=by
 obtain⟨ao,cap,hv,_,_⟩:=h.shape
 obtain⟨w1,hw1,bH,ax,hB⟩:=ay w #[.int .i64 e,.int .i64 n,v] 122
 have c0:w1.cell? ⟨w.heap.size,0,none⟩=some (.int .i64 e):=ai hB 0 rfl
 have c1:w1.cell? ⟨w.heap.size,1,none⟩=some (.int .i64 n):=ai hB 1 rfl
 have c2:w1.cell? ⟨w.heap.size,2,none⟩=some v:=ai hB 2 rfl
 have HC:=hide (aoY e n v l w1 (h.below ax) hf hl)
 unfold cZ at HC⊢
 rw[hv]at hw1 c2 HC⊢
 obtain⟨ch,hch⟩:∃c,Rn.aJ e n l=c:=⟨_,rfl⟩
 have KC:=hide hch
 rw[hch]at HC⊢
 clear h hf hl hB hv hch
 go_enter Tryz.func176,Tryz.ntmps176
 go_wp2_with fail
 refine HC.out.mono ?_
 rintro E w2 ⟨vb,rfl,own,aB⟩
 have aY:=ax.trans (aB.mono ax.size)
 obtain⟨ab,cb,hvb,_,_⟩:=own.is.shape
 by_cases hc0:ch=0
 ·have hz:(Rn.out e n l).length≤52233:=Rn.yB e n l
  have HF:=hide (aaR (.slice none 0 0) vb [] (Rn.out e n l) w2 (Is.nil _ _) own.is (by simp) (by omega))
  have ea:ape (Rn.out e n l)=0:=by unfold ape;rw[if_pos (by omega)]
  have ed:apd [] (Rn.out e n l)=abg e n l:=by
   unfold apd abg
   rw[if_pos (by omega),if_pos (by rw[KC.out];exact hc0),Rn.lC (by rw[KC.out];exact hc0)]
   rfl
  rw[ea,ed]at HF
  subst hvb
  subst hc0
  clear own ax aB ea ed hz HC
  go_wp2_with fail
  refine HF.out.mono ?_
  rintro E w3 ⟨vf,rfl,df,aH⟩
  obtain⟨af,cf,hvf,_,_⟩:=df.is.shape
  have O3:=hide (df.bz (base':=w.heap.size) aY.size)
  have B3:=hide (aY.trans (aH.mono aY.size))
  subst hvf
  clear df aH aY HF
  go_wp2
  go_ret2
  exact⟨_,rfl,O3.out,B3.out⟩
 ·have ed:abg e n l=[]:=by unfold abg;rw[if_neg (by rw[KC.out];exact hc0)]
  have ED:=hide ed
  have hne:(ch !=0)=true:=by simp[hc0]
  subst hvb
  clear own ax aB ed HC
  go_wp2
  go_ret2
  exact⟨_,rfl,by rw[ED.out];exact Own.nil _ _ _ _,aY⟩
theorem alF (q:Nat)(F:Nat→Prop)(w:World)(st:Dm.Ds)(len:Int)(h:Pk q F w st)(hs:Big 100000000 800000 st):
  Calls Tryz.prog 159 #[.pointer (some ⟨q,0,none⟩),.int .i64 len] w fun E w'=>E=.returned (.int .i64 (if (Dm.bg st 2 len).1≠0 then(Dm.bg st 2 len).1 else(Dm.sync (Dm.bg st 2 len).2).1))∧aP q F w w' (if (Dm.bg st 2 len).1≠0 then(Dm.bg st 2 len).2 else(Dm.sync (Dm.bg st 2 len).2).2):=by
 have HC:=hide (adu q F w st 2 len h (fun f=>Nat.le_trans (hs.1.1 f) (by decide)) (Nat.le_trans hs.1.2.1 (by decide)) hs.2 (Nat.lt_of_le_of_lt hs.1.2.2 (by decide)))
 have hs2:=zz hs 2 len
 have HS:Hid (∀W G,Pk q G W (Dm.bg st 2 len).2→Calls Tryz.prog 138 #[.pointer (some ⟨q,0,none⟩)] W fun E w'=>E=.returned (.int .i64 (Dm.sync (Dm.bg st 2 len).2).1)∧aP q G W w' (Dm.sync (Dm.bg st 2 len).2).2):=hide fun W G hk=>nT q G W _ hk (fun f=>Nat.le_trans (hs2.1.1 f) (by decide)) (Nat.le_trans hs2.1.2.1 (by decide)) hs2.2 (Nat.lt_of_le_of_lt hs2.1.2.2 (by decide))
 generalize Dm.bg st 2 len=x at*
 obtain⟨e,st2⟩:=x
 simp only at*
 generalize Dm.sync st2=y at*
 obtain⟨f,st3⟩:=y
 simp only at*
 clear h hs hs2
 by_cases he:e=0
 ·subst he
  simp only[ne_eq,not_true,if_false]
  go_enter Tryz.func159,Tryz.ntmps159
  go_wp2_with fail
  refine HC.out.mono ?_
  rintro E w1 ⟨rfl,F1,k1,k2,k3⟩
  have HS1:=hide (HS.out w1 F1 k1)
  have K2:=hide k2
  have K3:=hide k3
  clear k1 k2 k3 HC HS
  go_wp2_with fail
  refine HS1.out.mono ?_
  rintro E w2 ⟨rfl,J⟩
  have J:=hide (aP.trans K2.out K3.out J)
  go_wp2
  go_ret
  exact⟨rfl,J.out⟩
 ·simp only[ne_eq,he,not_false_eq_true,if_true]
  have hne:(e !=0)=true:=by simp[he]
  go_enter Tryz.func159,Tryz.ntmps159
  go_wp2_with fail
  refine HC.out.mono ?_
  rintro E w1 ⟨rfl,J⟩
  have J:=hide J
  clear HC HS
  go_wp2
  go_ret
  exact⟨rfl,J.out⟩
theorem xJ.put {p q:Nat}{w:World}{l:List Cm.Cv}{bk:Bool}{v:Value}{rs:List Cw}(h:xJ p q w l bk v rs)(b:Bool):xJ p q (w.setCell ⟨p,1,none⟩ (.bool b)) l b v rs∧Out (fun g=>g=p) w (w.setCell ⟨p,1,none⟩ (.bool b)):=by
 have ho:Out (fun g=>g=p) w (w.setCell ⟨p,1,none⟩ (.bool b)):=Out.aT (aC w ⟨p,1,none⟩ (.bool b)) fun g hg=>by simp at hg;exact hg.symm
 refine⟨⟨by rw[aL h.blk];rfl,h.log.agree fun g hg=>ho.block g (h.log.lt g hg) fun e=>?_⟩,ho⟩
 exact h.log.ne h.blk (by decide) (by decide) (e▸hg)
theorem RW.flag {p q:Nat}{F:Nat→Prop}{w:World}{s:Rl.Rs}(h:RW p q F w s)(b:Bool):ku p q F w (w.setCell ⟨p,1,none⟩ (.bool b)) ⟨s.d,s.l,b⟩:=by
 obtain⟨F1,G1,h1,h2,rfl⟩:=h
 obtain⟨v,rs,hv,rfl⟩:=h2
 obtain⟨k1,k2⟩:=hv.put b
 have h2:Rk p q (fun g=>g=p∨QB v rs g) w s.l s.bk:=⟨v,rs,hv,rfl⟩
 refine⟨_,⟨F1,_,h1.out k2 fun g hg e=>tT h2 h1 g (.inl e) hg,⟨v,rs,k1,rfl⟩,rfl⟩,k2.mono fun g hg=>.inl (.inr (.inl hg)),fun g hg=>.inl hg⟩
theorem agK (p q:Nat)(F:Nat→Prop)(w:World)(s:Rl.Rs)(h:RW p q F w s):
  Calls Tryz.prog 175 #[.pointer (some ⟨p,0,none⟩)] w fun E w'=>(Rl.ask s=true∧E=.returned (.int .i64 6)∧ku p q F w w' (Rl.brk s))∨(Rl.ask s=false∧E=.returned (.int .i64 0)∧w=w'):=by
 have HF:=hide (h.flag true)
 obtain⟨F1,G1,h1,h2,rfl⟩:=h
 obtain⟨v,rs,hv,rfl⟩:=h2
 have HM:=hide (oM p q w _ _ hv.blk)
 have HO:=hide (yE q F1 w s.d h1)
 have c0:=ai hv.blk 0 rfl
 have c1:=ai hv.blk 1 rfl
 have f1:=az hv.blk 1
 simp only[List.getElem_toArray,List.getElem_cons_zero,List.getElem_cons_succ]at c0 c1
 unfold Rl.ask
 generalize s.d.on=on at HO⊢
 generalize s.bk=bk at c1⊢
 clear hv h1
 cases bk<;>cases on
 ·go_enter Tryz.func175,Tryz.ntmps175
  go_wp2_with fail
  refine HM.out.mono ?_
  rintro E w1 ⟨rfl,rfl⟩
  go_wp2_with fail
  refine HO.out.mono ?_
  rintro E w1 ⟨rfl,rfl⟩
  go_wp2
  go_ret
  exact .inl ⟨rfl,rfl,HF.out⟩
 ·go_enter Tryz.func175,Tryz.ntmps175
  go_wp2_with fail
  refine HM.out.mono ?_
  rintro E w1 ⟨rfl,rfl⟩
  go_wp2_with fail
  refine HO.out.mono ?_
  rintro E w1 ⟨rfl,rfl⟩
  go_wp2
  go_ret
  exact .inr ⟨rfl,rfl,rfl⟩
 ·go_enter Tryz.func175,Tryz.ntmps175
  go_wp2_with fail
  refine HM.out.mono ?_
  rintro E w1 ⟨rfl,rfl⟩
  go_wp2
  go_ret
  exact .inl ⟨rfl,rfl,HF.out⟩
 ·go_enter Tryz.func175,Tryz.ntmps175
  go_wp2_with fail
  refine HM.out.mono ?_
  rintro E w1 ⟨rfl,rfl⟩
  go_wp2
  go_ret
  exact .inl ⟨rfl,rfl,HF.out⟩
theorem jH (p q:Nat)(F:Nat→Prop)(w:World)(s:Rl.Rs)(h:RW p q F w s):
  Calls Tryz.prog 113 #[.pointer (some ⟨p,0,none⟩)] w fun E w'=>E=.returned (.int .i64 (Cm.lastN 0 s.l))∧w=w':=by
 obtain⟨F1,G1,h1,h2,rfl⟩:=h
 obtain⟨v,rs,hv,rfl⟩:=h2
 have HM:=hide (oM p q w _ _ hv.blk)
 have HE:=hide (ahN v rs w hv.log.row.row hv.log.nA)
 rw[hv.log.is]at HE
 have c2:=ai hv.blk 2 rfl
 simp only[List.getElem_toArray,List.getElem_cons_zero,List.getElem_cons_succ]at c2
 clear hv h1
 go_enter Tryz.func113,Tryz.ntmps113
 go_wp2_with fail
 refine HM.out.mono ?_
 rintro E w1 ⟨rfl,rfl⟩
 go_wp2_with fail
 refine HE.out.mono ?_
 rintro E w1 ⟨rfl,rfl⟩
 go_wp2
 go_ret
 exact⟨rfl,rfl⟩
end Go.Proofs.YtpifdeoepppadaaGreatDoor

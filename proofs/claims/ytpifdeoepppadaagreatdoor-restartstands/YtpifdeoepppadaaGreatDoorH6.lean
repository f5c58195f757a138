/- Texts of one layer, one behind the other. -/
import Derived.Test.YtpifdeoepppadaaGreatDoorG9
import Derived.Test.YtpifdeoepppadaaGreatDoorG13
import Derived.Test.YtpifdeoepppadaaGreatDoorH2
import Derived.Test.YtpifdeoepppadaaGreatDoorZIter
import Derived.Test.YtpifdeoepppadaaGreatDoorG19
import Derived.Test.YtpifdeoepppadaaGreatDoorH8
set_option maxRecDepth 100000
set_option maxHeartbeats 8000000
namespace Go.Proofs.YtpifdeoepppadaaGreatDoor
open Go.RowKit
set_option linter.unusedVariables false
theorem uK {V:World}{R:Nat}{t:TypeId}{x y z:Value}(hR:V.heap[R]? =some (.cells #[x,y,z] t (0,0)))(c:Value):
  ∃V',V.setCell ⟨R,2,none⟩ c=V'∧V'.heap[R]? =some (.cells #[x,y,c] t (0,0))∧V.grownBy V' (some R)∧V.cell? ⟨R,2,none⟩=some z∧V.frozen? ⟨R,2,none⟩=false:=
 ⟨_,rfl,aL hR 2 c,aC V ⟨R,2,none⟩ c,ai hR 2 rfl,az hR 2⟩
theorem tq (e n:Int)(v:Value)(l:List Bm.Ov)(w:World)(h:dm w v l)(hl:l.length*40≤140737488351232):
  Calls Tryz.prog 92 #[cZ e n v] w fun E w'=>∃v',E=.returned (cZ e n v')∧aV 106 w.heap.size w' v' l∧Below w.heap.size w w':=by
 unfold cZ
 obtain⟨w1,hw1,bH,ax,hB⟩:=ay w #[.int .i64 e,.int .i64 n,v] 32
 obtain⟨w2,hw2,fA,aB,hR⟩:=ay w1 #[.int .i64 0,.int .i64 0,.slice none 0 0] 32
 rw[bH]at hR
 have hB2:=(aB.block w.heap.size (by omega)).trans hB
 have aY:Below w.heap.size w w2:=ax.trans (aB.mono (by omega))
 have h2:=h.below aY
 obtain⟨ao,cap,rfl,_,_⟩:=h.shape
 have c2:=ai hB2 2 rfl
 have HB:=hide hB2
 have HR:=hide hR
 clear hB hB2 hR ax aB
 go_enter Tryz.func92,Tryz.ntmps92
 go_wp2_with fail
 refine(abN _ l _ h2 hl).mono ?_
 rintro E w3 ⟨v3,rfl,df,aH⟩
 have fZ:=aH.size
 have hB3:=(aH.block w.heap.size (by omega)).trans HB.out
 have j6:=(aH.block (w.heap.size+1) (by omega)).trans HR.out
 have bP:=aY.trans (aH.mono (by omega))
 obtain⟨ah,ch,hvl,_,_⟩:=df.is.shape
 subst hvl
 obtain⟨X,hX,cX,gX,q2,q3⟩:=uK hB3 (.slice ah l.length ch)
 have szX:=gX.size
 have xH:=(gX.block (w.heap.size+1) (by omega) (by simp)).trans j6
 have ag7:=df.qz gX (by omega)
 have acF:=aK bP gX (Nat.le_refl _) (by omega)
 have d0:=ai cX 0 rfl
 have d1:=ai cX 1 rfl
 have d2:=ai cX 2 rfl
 obtain⟨V',hV',ic,dK,⟨a0,a1,a2⟩,⟨f0,f1,f2⟩,⟨z0,z1,z2⟩⟩:=dN xH (.int .i64 e) (.int .i64 n) (.slice ah l.length ch)
 have eO:=aK acF dK (by omega) (by omega)
 have qi:=(ag7.qz dK (by omega)).bz (base':=w.heap.size) (by omega)
 clear HB HR hB3 j6 cX gX xH ic dK df ag7 bP acF aH c2
 go_wp2
 refine bodyPost_ret (v:=.agg #[.int .i64 e,.int .i64 n,.slice ah l.length ch]) (by simp[results,Tryz.results92,go_sem,z0,z1,z2]) rfl ?_
 exact⟨_,rfl,qi,eO⟩
end Go.Proofs.YtpifdeoepppadaaGreatDoor
namespace Go.Proofs.YtpifdeoepppadaaGreatDoor
open Go.RowKit Go.Maps Go.Shelf
open Bm (Ov)
set_option linter.unusedVariables false
attribute [local go_sem] Oper.semAt_some
theorem auE (o:Ov):encStr o.kl=.string o.k:=by
 unfold encStr Bm.Ov.kl
 rw[Array.toArray_toList]
theorem ayS {t:List Ov}{o:Ov}(h:Tm.Up t)(ho:o∈t):gv t o.k=o.v∧gp t o.k=o.p:=by
 unfold gv gp
 rw[Tm.get_mem h ho]
 exact⟨rfl,rfl⟩
theorem apo (p b:Nat)(w:World)(t:List Ov)(h:Tb p b w t)(hf:fG t)(hn:t.length≤1000000):
  Calls Tryz.prog 174 #[.pointer (some ⟨p,0,none⟩)] w fun E w'=>∃v,E=.returned v∧aV 106 w.heap.size w' v t∧Below w.heap.size w w':=by
 have HM:=hide (sN p b w h.cell)
 have hc:=h.cell
 obtain⟨W1,hW1,bH,b1,B1⟩:=ay w #[.map (some b)] 114
 have HK:Hid (Calls Tryz.prog 200 #[.map (some b)] w fun E w'=>E=.returned (.func (.func 217) #[] #[.pointer (some ⟨w.heap.size,0,none⟩)])∧W1=w'):=hide (by
  refine(callsIn_wide.1 (Tryz.maps_Keys_200 (some b) w)).mono ?_
  rintro E w' ⟨rfl,rfl⟩
  exact⟨rfl,hW1.symm⟩)
 have HS:Hid (Calls Tryz.prog 199 #[.func (.func 217) #[] #[.pointer (some ⟨w.heap.size,0,none⟩)]] W1 fun E w'=>∃v,E=.returned v∧w'.ownsRow (w.heap.size+1) 9 1 v t.length (t.map fun o=>.string o.k)∧Below (w.heap.size+1) W1 w'):=hide (by
  have:=callsIn_wide.1 (Tryz.slices_Sorted_keys_199_200 b t.length (Tm.dat t) Ren w h.own (by rw[Tm.xw];unfold maxLen;omega) (by rw[Tm.xw];omega))
  rw[hW1,bH]at this
  refine this.mono ?_
  rintro E w' ⟨v,ss,rfl,hp,hr,_,hb⟩
  have e1:=Tm.akz h.up hp
  have e2:ss.length=t.length:=by
   have:=hp.length_eq
   rw[Tm.af1,List.length_map]at this
   exact this
  rw[e1,e2,List.map_map]at hr
  refine⟨v,rfl,?_,hb⟩
  have e3:(t.map fun o=>Value.string o.k)=t.map (encStr ∘ Bm.Ov.kl):=List.map_congr_left fun o _=>(auE o).symm
  rw[e3]
  exact hr)
 have HT0:=hide h
 have HF:=hide hf
 have Hb1:=hide b1
 clear hf h B1 b1
 go_enter Tryz.func174,Tryz.ntmps174
 go_wp2_with fail
 refine HM.out.mono ?_
 rintro E w' ⟨rfl,rfl⟩
 go_wp2_with fail
 refine HK.out.mono ?_
 rintro E w' ⟨rfl,rfl⟩
 go_wp2_with fail
 refine HS.out.mono ?_
 rintro E W2 ⟨v,rfl,hrow,b2⟩
 have b02:Below w.heap.size w W2:=Hb1.out.trans (b2.mono (by omega))
 have HT2:=hide (HT0.out.below b02)
 have fA:w.heap.size+1≤W2.heap.size:=by have:=b2.size;omega
 obtain⟨n,hnn⟩:∃n,t.length=n:=⟨_,rfl⟩
 have arU:Hid (∀(k:Nat) (o:Ov),t[k]? =some o→∃g cap,v=.slice (some ⟨g,0,none⟩) n cap∧g<W2.heap.size∧W2.cell? ⟨g,k,none⟩=some (.string o.k)):=hide (by
  intro k o ho
  have hk:k<t.length:=(List.getElem?_eq_some_iff.1 ho).1
  rcases hrow.2 with⟨hv,h0⟩|⟨g,cap,cur,hv,h1,hh,_⟩
  ·omega
  ·have hb:v.ownBlock=some g:=by rw[hv];rfl
   have:=hrow.cells hb k (.string o.k) (by rw[List.getElem?_map,ho];rfl)
   refine⟨g,cap,by rw[hv,hnn],aA hh,?_⟩
   rw[fD,Nat.zero_add]at this
   exact this)
 obtain⟨ao,cap,hv⟩:∃ao cap,v=.slice ao n cap:=by
  rcases hrow.2 with⟨hv,h0⟩|⟨g,cap,cur,hv,h1,hh,_⟩
  ·exact⟨none,0,by rw[hv,←hnn,h0]⟩
  ·exact⟨_,cap,by rw[hv,hnn]⟩
 subst hv
 have HN:=hide hnn
 rw[hnn]at hn
 have aAU:=hide b02
 clear hrow b2 hc hnn b02
 go_wp2
 go_loopw [17,3] (fun i ov wr=>∃(k:Nat),k≤n∧i=.int .i64 k∧Hid (aV 106 W2.heap.size wr ov (t.take k))∧Below W2.heap.size W2 wr) (fun i _ _=>n-(intOf i).toNat)
 case atStart=>exact⟨0,by omega,rfl,hide (aV.nil _ _ _),Below.refl _ _⟩
 case round=>
  obtain⟨k,hk,rfl,HOW,aF⟩:=hrel
  have sz:=aF.size
  by_cases hlt:k<n
  ·obtain⟨o,ho⟩:∃o,t[k]? =some o:=⟨t[k]'(by have:=HN.out;omega),by rw[List.getElem?_eq_getElem]⟩
   have hlt':(k:Int)<n:=by omega
   obtain⟨g,cq,dL,hg,hcell⟩:=arU.out k o ho
   simp only[Value.slice.injEq,true_and]at dL
   obtain⟨rfl,rfl⟩:=dL
   have d0:=(aF.cell (p:=⟨g,k,none⟩) hg).trans hcell
   have Tr:=HT2.out.below aF
   have hm:=List.mem_of_getElem? ho
   obtain⟨f1,f2⟩:=HF.out o hm
   obtain⟨e1,e2⟩:=ayS Tr.up hm
   have hlk:=aiV Tr o.k (by unfold maxLen;omega) false
   rw[e1,e2]at hlk
   unfold env at hlk
   have pc:=Tr.cell
   obtain⟨W3,hW3,fZ,b3,B3⟩:=ay wr #[.string o.v,.bool o.p] 119
   have x0:=ai B3 0 rfl
   have x1:=ai B3 1 rfl
   obtain⟨W4,hW4,pK,b4,bM⟩:=lN 106 W3 #[.bool o.p,.string o.k,.string o.v] 1 [o] rfl rfl (by simp[maxLen])
   have b34:Below wr.heap.size wr W4:=b3.trans (b4.mono (by omega))
   have b24:Below W2.heap.size W2 W4:=aF.trans (b34.mono sz)
   have axE:=HOW.out.below b34
   have is4:=bM.is
   have hlen:((t.take k).length+[o].length)*40≤140737488355328:=by rw[List.length_take];simp;omega
   have hz4:W2.heap.size≤W4.heap.size:=b24.size
   have HO:=hide ho
   have aBp:=hide b24
   clear Tr e1 e2 ho hm B3 b3 b4 bM b34 b24 hcell aF HOW
   simp only[if_false,Bool.false_eq_true]at hlk
   rw[fZ]at is4
   go_wp2_with (at_builtin;refine iN rfl (.tmp 27) (.tmp 34) 30 rfl 106 W2.heap.size Tryz.underlying30 Tryz.nR _ (t.take k) rfl axE _ [o] rfl is4 hlen hz4 ?_)
   rintro v' w' ho' hb' _
   have HO2:Hid (aV 106 W2.heap.size w' v' (t.take (k+1))):=hide (by
    obtain⟨hk',hk2⟩:=List.getElem?_eq_some_iff.1 HO.out
    rw[List.take_succ_eq_append_getElem hk',hk2]
    exact ho')
   have HB2:=hide (aBp.out.trans hb')
   clear ho' hb' axE is4 d0 hlk pc hW3 hW4
   go_wp2
   go_roundw
   case rel=>exact⟨k+1,by omega,by go_num,HO2,HB2.out⟩
   case measure=>simp[intOf];omega
  ·have hlt':¬(k:Int)<n:=by omega
   have HE:Hid (aV 106 W2.heap.size wr _ t):=hide (by
    have h1:=HOW.out
    rw[List.take_of_length_le (by have:=HN.out;omega)]at h1
    exact h1)
   go_wp2
   go_ret
   exact⟨_,rfl,HE.out.bz (by omega),aAU.out.trans (aF.mono (by omega))⟩
def ui (B base:Nat) (w:World) (t:List Ov):Prop:=base≤B∧∃v,w.heap[B]? =some (.cells #[v] 30 (0,0))∧aV 106 base w v t
theorem ui.below {B base:Nat}{w w':World}{t:List Ov}(h:ui B base w t)(hb:Below w.heap.size w w'):ui B base w' t:=by
 obtain⟨h1,v,h2,h3⟩:=h
 exact⟨h1,v,(hb.block B (aA h2)).trans h2,h3.below hb⟩
theorem auv {w W1 W2:World}{v:Value}{t:List Ov}(ho:aV 106 w.heap.size W1 v t)(b1:Below w.heap.size w W1)(hB:W2.heap[W1.heap.size]? =some (.cells #[v] 30 (0,0)))(b2:Below W1.heap.size W1 W2):ui W1.heap.size w.heap.size W2 t∧Below w.heap.size w W2:=
 ⟨⟨b1.size,v,hB,ho.below b2⟩,b1.trans (b2.mono b1.size)⟩
theorem au4 (tv:Value)(w:World)(t:List Ov)(hm:Calls Tryz.prog 174 #[tv] w fun E w'=>∃v,E=.returned v∧aV 106 w.heap.size w' v t∧Below w.heap.size w w'):
  Calls Tryz.prog 127 #[tv] w fun E w'=>∃B,E=.returned (.func (.func 198) #[] #[.pointer (some ⟨B,0,none⟩)])∧ui B w.heap.size w' t∧Below w.heap.size w w':=by
 have HM:=hide hm
 clear hm
 go_enter Tryz.func127,Tryz.ntmps127
 go_wp2_with fail
 refine HM.out.mono ?_
 rintro E W1 ⟨v,rfl,ho,b1⟩
 obtain⟨W2,hW2,fA,b2,B2⟩:=ay W1 #[v] 30
 have HE:=hide (auv ho b1 B2 b2)
 have HV:Hid (Calls Tryz.prog 173 #[v] W1 fun E w'=>E=.returned (.func (.func 198) #[] #[.pointer (some ⟨W1.heap.size,0,none⟩)])∧W2=w'):=hide (by
  obtain⟨ao,cap,hv,_,_⟩:=ho.is.shape
  subst hv
  clear HM HE ho b1 b2 B2
  go_enter Tryz.func173,Tryz.ntmps173
  go_wp2
  go_ret
  exact⟨rfl,rfl⟩)
 clear ho b1 b2 B2 hW2
 go_wp2_with fail
 refine HV.out.mono ?_
 rintro E w' ⟨rfl,rfl⟩
 go_wp2
 go_ret
 exact⟨_,rfl,HE.out⟩
end Go.Proofs.YtpifdeoepppadaaGreatDoor
namespace Go.Proofs.YtpifdeoepppadaaGreatDoor
open Go.RowKit Go.Maps Go.Shelf
open Bm (Ov)
set_option linter.unusedVariables false
attribute [local go_sem] Oper.semAt_some
def pt (t:List Ov) (x:Nx t.length):Ov:=t[x.1]'x.2
def pts (t:List Ov) (xs:List (Nx t.length)):List Ov:=xs.map (pt t)
theorem atI (t:List Ov)(xs:List (Nx t.length)):(pts t xs).length=xs.length:=by simp[pts]
theorem ahO (t:List Ov)(xs:List (Nx t.length))(x:Nx t.length):pts t (xs++[x])=pts t xs++[pt t x]:=by simp[pts]
theorem ann (t:List Ov):∀k,k≤t.length→pts t (upn t.length k)=t.take k
 |0,_=>by simp[upn,pts]
 |k+1,h=>by
  rw[vY _ k (by omega),ahO,ann t k (by omega),List.take_succ_eq_append_getElem (by omega)]
  rfl
theorem auY (t:List Ov):pts t (upn t.length t.length)=t:=by rw[ann t _ (Nat.le_refl _),List.take_length]
theorem arj {S:Nat→Prop}{w W:World}(hS:∀g,S g→g<w.heap.size)(h:Kn S w W)(o:Obj):Kn S w (W.alloc o):=fun g hg=>by
 have h1:=h g hg
 have h2:g<W.heap.size:=by
  have h3:=hS g hg
  rw[Array.getElem?_eq_getElem h3]at h1
  exact(Array.getElem?_eq_some_iff.1 h1).1
 exact(Below.heap_alloc W o g h2).trans h1
theorem ap4 (n:Nat)(hn:1≤n)(l B:Nat)(t:List Ov)(sv:Value)(S:Nat→Prop)(hSB:S B)(hSv:∀b,sv.ownBlock=some b→S b)(sU:t.length≤1000000)(J Jx:List (Nx t.length)→World→Prop)(W:World)(hSW:∀g,S g→g<W.heap.size)(hJ:AbidesFrom W.heap.size J)
  (hY:∀pre x W1,J pre W1→pre.length<t.length→YieldAt Fence.wide (n-1) Tryz.prog l #[ovv (pt t x)] W1 fun e W'=>(e=.returned (.bool true)∧J (pre++[x]) W'∧Kn S W1 W')∨(e=.returned (.bool false)∧Jx (pre++[x]) W'))
  (hB:W.cell? ⟨B,0,none⟩=some sv) (his:dm W sv t) (h0:J [] W):
  CallsIn Fence.wide n Tryz.prog 198 #[.func (.yield l) #[] #[],.pointer (some ⟨B,0,none⟩)] W fun e W'=>(∃v,e=.returned v)∧((∃xs,xs=upn t.length t.length∧J xs W')∨(∃pre,(∃k,k≤t.length∧pre=upn t.length k)∧Jx pre W')):=by
 have hro:Fence.wide.round=none:=rfl
 obtain⟨ao,cap,hsv,hcap,hcm⟩:=his.shape
 have jb:=hide fun(h0:0<t.length)=>his.full h0
 subst hsv
 have uG:=hide hSW
 have HJ0:=hide hJ
 have HY:=hide hY
 clear his hSW hJ hY
 refine callsIn_of_wp Tryz.func198 rfl trivial ?_ hro
 simp only[Tryz.ntmps198,List.size_toArray,List.length_cons,List.length_nil,Nat.reduceAdd,Nat.reduceSub,Array.replicate_succ,Array.replicate_zero,List.push_toArray,List.append_toArray,List.nil_append,List.cons_append]
 gi_wp2
 gi_loopw [7] (fun iv wr=>∃k:Nat,k≤t.length∧iv=.int .i64 k∧Hid (J (upn t.length k) wr)∧Kn S W wr) (fun iv _=>t.length-(intOf iv).toNat)
 case atStart=>exact⟨0,Nat.zero_le _,rfl,h0,fun _ _=>rfl⟩
 case round=>
  obtain⟨k,hk,rfl,HJ,hK⟩:=hrel
  by_cases hlt:k<t.length
  ·obtain⟨b,off,cq,dL,_,_,hb,hcell⟩:=jb.out (by omega)
   simp only[Value.slice.injEq,true_and]at dL
   obtain⟨rfl,rfl⟩:=dL
   obtain⟨o,ho⟩:∃o,pt t ⟨k,hlt⟩=o:=⟨_,rfl⟩
   have ho':t[k]? =some o:=by rw[List.getElem?_eq_getElem hlt,←ho];rfl
   obtain⟨c0,c1,c2⟩:=hcell k o ho'
   have hkb:=hK b (hSv b rfl)
   have d0:=(iP hkb (off+k*3)).trans c0
   have d1:=(iP hkb (off+k*3+1)).trans c1
   have d2:=(iP hkb (off+k*3+2)).trans c2
   obtain⟨W1,hW1,bH,rq,B1⟩:=ay wr #[.bool o.p,.string o.k,.string o.v] 106
   have e0:W1.cell? ⟨wr.heap.size,0,none⟩=some (.bool o.p):=ai B1 0 rfl
   have e1:W1.cell? ⟨wr.heap.size,1,none⟩=some (.string o.k):=ai B1 1 rfl
   have e2:W1.cell? ⟨wr.heap.size,2,none⟩=some (.string o.v):=ai B1 2 rfl
   have HJ1:J (upn t.length k) W1:=by
    rw[←hW1]
    exact HJ0.out _ _ _ none HJ.out (World.grownBy_alloc _ _ _) (fun r e=>by cases e)
   have hK1:Kn S W W1:=by rw[←hW1];exact arj uG.out hK _
   obtain⟨fn,tmps,assign,body,hy,hR⟩:=HY.out _ ⟨k,hlt⟩ W1 HJ1 (by rw[ajj _ k hk];omega)
   rw[ho]at hy
   unfold ovv at hy
   have hlt':(k:Int)<t.length:=by omega
   have hk0:(0:Int)≤(k:Int):=by omega
   have HR:=hide hR
   have HK:=hide hK1
   clear hR hcell hSv B1 rq HJ1 hK hK1 c0 c1 c2 hkb ho ho'
   gi_wp2
   refine HR.out.mono ?_
   rintro e W3 (⟨rfl,hJ3,hk3⟩|⟨rfl,hJx3⟩)
   ·have qZ:Hid (J (upn t.length (k+1)) W3):=hide (by rw[vY _ k hlt];exact hJ3)
    have hK4:=HK.out.trans hk3
    clear hJ3
    gi_wp2
    go_roundw
    case rel=>exact⟨k+1,by omega,by go_num,qZ,hK4⟩
    case measure=>simp[intOf];omega
   ·have qZ:Hid (Jx (upn t.length (k+1)) W3):=hide (by rw[vY _ k hlt];exact hJx3)
    clear hJx3
    gi_wp2
    refine bodyPost_ret (results_none rfl _ _ _) rfl ?_
    exact⟨⟨_,rfl⟩,.inr ⟨_,⟨k+1,by omega,rfl⟩,qZ.out⟩⟩
  ·have hlt':¬(k:Int)<t.length:=by omega
   obtain rfl:k=t.length:=by omega
   gi_wp2
   go_end0
   exact⟨⟨_,rfl⟩,.inl HJ.out⟩
def vZ (B:Nat) (w:World) (g:Nat):Prop:=g=B∨∃u,w.cell? ⟨B,0,none⟩=some u∧u.ownBlock=some g
theorem ui.lt {B base:Nat}{w:World}{t:List Ov}(h:ui B base w t):∀g,vZ B w g→base≤g∧g<w.heap.size:=by
 obtain⟨hb,v,h1,h2⟩:=h
 rintro g (rfl|⟨u,hu,hg⟩)
 ·exact⟨hb,aA h1⟩
 ·have c0:w.cell? ⟨B,0,none⟩=some v:=ai h1 0 rfl
  rw[c0]at hu
  cases hu
  exact h2.block g hg
theorem ao8 (n:Nat)(hn:1≤n)(B base:Nat)(t:List Ov)(w:World)(h:ui B base w t)(sU:t.length≤1000000):
  SeqStopsK Fence.wide n Tryz.prog 198 #[.pointer (some ⟨B,0,none⟩)] (fun x:Nx t.length=>#[ovv (pt t x)]) (Kn (vZ B w)) (fun xs=>xs=upn t.length t.length) (fun pre=>∃k,k≤t.length∧pre=upn t.length k) t.length w:=fun l J Jx W hW hJ hJx hY h0=>by
 have hlt:=h.lt
 obtain⟨hb,v,h1,h2⟩:=h
 have c0:=ai h1 0 rfl
 refine ap4 n hn l B t v (vZ B w) (.inl rfl) (fun b hb=>.inr ⟨v,c0,hb⟩) sU J Jx W (fun g hg=>Nat.lt_of_lt_of_le (hlt g hg).2 hW.size) hJ hY ((hW.cell (p:=⟨B,0,none⟩) (aA h1)).trans c0) (h2.is.below hW) h0
end Go.Proofs.YtpifdeoepppadaaGreatDoor
namespace Go.Proofs.YtpifdeoepppadaaGreatDoor
open Go.RowKit Go.Maps Go.Shelf
open Bm (Ov)
set_option linter.unusedVariables false
attribute [local go_sem] Oper.semAt_some
theorem xQ {F:Fence}{nf:Nat}{P:Program}{w:World}{ops:Array Oper}{rest:List Oper}{o:Oper}{a:Act}{Q:Exit→Act→World→Prop}(hgd:o.guard=none)(s x:Operand)(t:TypeId)
  (ho:o.op=.call {callee:=.builtin .append,args:=#[s,x],argTypes:=#[t,t]})
  (e:TypeId) (base:Nat) (ht:P.underlying t=some (.slice e)) (hinfo:(P.info? e).map (fun i=>(i.zero,i.size,i.bytes))=some (some (.agg #[.bool false,.string ⟨#[]⟩,.string ⟨#[]⟩]),3,40))
  (v:Value) (l:List Ov) (hs:a.eval s=v) (hown:aV e base w v l) (ad:Addr) (m:List Ov) (c:Nat) (hx:a.eval x=.slice (some ad) m.length c) (hc:∀j u,(ocells m)[j]? =some u→w.cell? (ad.add j)=some u)
  (hlen:(l.length+m.length)*40≤140737488355328) (hbase:base≤w.heap.size)
  (h:∀v' w',aV e base w' v' (l++m)→Below base w w'→w.grownBy w' v.ownBlock→wpListIn F nf P ops Q rest (a.put o.dst v') w'):wpListIn F nf P ops Q (o::rest) a w:=by
 obtain⟨i,hi,hz,hsize,hb⟩:=info_parts hinfo
 have hn:l.length+m.length≤140737488355328:=by omega
 refine wpListIn_append_own w hgd s x t ho base e i _ 3 40 ht hi hz hsize hb rfl (by decide) v l.length _ hs hown ad m.length c (ocells m) hx (qw m) hc (um m) (by unfold maxLen;omega) hlen hbase ?_
 intro v' w' ho' hg _
 refine h v' w' (by unfold aV;rw[xz,List.length_append];exact ho') ((Below.refl _ _).grown hg hbase fun k' hk=>?_) hg
 exact(World.ownsRow.lt hown k' hk).1
theorem aV.xN {e base:Nat}{w:World}{v:Value}{l:List Ov}(h:aV e base w v l){g:Nat}(hg:v.ownBlock=some g):∃cs fr,w.heap[g]? =some (.cells cs e fr):=by
 rcases h.2 with⟨hv,_⟩|⟨g',cap,cur,hv,h1,hh,_⟩
 ·rw[hv]at hg;cases hg
 ·rw[hv]at hg
  cases hg
  exact⟨_,_,hh⟩
def RI (ob:Nat) (W3:World) (l:List Ov) (W:World):Prop:=∃v,W.heap[ob]? =some (.cells #[v] 30 (0,0))∧aV 106 W3.heap.size W v l∧Out (fun g=>g=ob) W3 W
theorem RI.grown {ob:Nat}{W3 W W':World}{l:List Ov}{row:Option Nat}(zk:ob<W3.heap.size)(h:RI ob W3 l W)(hg:W.grownBy W' row)(hr:∀r,row=some r→W3.heap.size≤r∧∃o:Obj,W.heap[r]? =some o∧o.isCells=false):RI ob W3 l W':=by
 obtain⟨v,h1,h2,h3⟩:=h
 refine⟨v,(hg.block ob (aA h1) fun e=>by have:=(hr _ e.symm).1;omega).trans h1,h2.kept hg ?_,h3.trans (Out.aT (F:=fun g=>row=some g) hg fun g h=>h) fun g h=>.inr (hr g h).1⟩
 cases hv:v.ownBlock with
 |none=>exact .inl rfl
 |some g=>
  refine .inr fun e=>?_
  obtain⟨cs,fr,h4⟩:=h2.xN hv
  obtain⟨_,o,h5,h6⟩:=hr g e.symm
  rw[h4]at h5
  cases h5
  simp[Obj.isCells]at h6
theorem RI.app {ob:Nat}{W3 W W1 W2:World}{l':List Ov}{v v':Value}(zk:ob<W3.heap.size)(hW3:W3.heap.size≤W.heap.size)(h1:W.heap[ob]? =some (.cells #[v] 30 (0,0)))(h3:Out (fun g=>g=ob) W3 W)(b1:Below W.heap.size W W1)(ho:aV 106 W3.heap.size W2 v' l')(b2:Below W3.heap.size W1 W2):
  RI ob W3 l' (W2.setCell ⟨ob,0,none⟩ v')∧W2.heap[ob]? =some (.cells #[v] 30 (0,0)):=by
 have h4:=(b2.block ob zk).trans ((b1.block ob (by omega)).trans h1)
 refine⟨⟨v',by rw[aL h4];simp,?_,?_⟩,h4⟩
 ·refine ho.kept (aC W2 ⟨ob,0,none⟩ v') ?_
  cases hv:v'.ownBlock with
  |none=>exact .inl rfl
  |some g=>
   refine .inr fun e=>?_
   have:=(ho.block g hv).1
   simp at e
   omega
 ·have q1:Out (fun g=>g=ob) W3 W1:=h3.trans (Out.of_below (F:=fun g=>g=ob) b1) fun g hg=>.inl hg
  have q2:Out (fun g=>g=ob) W3 W2:=⟨b2.os.trans q1.os,b2.tape.trans q1.tape,b2.output.trans q1.output,Nat.le_trans q1.size b2.size,fun g hg hn=>(b2.block g hg).trans (q1.block g hg hn)⟩
  exact q2.trans (Out.aT (F:=fun g=>g=ob) (aC W2 ⟨ob,0,none⟩ v') fun g hg=>by simpa using hg.symm) fun g hg=>.inl hg
theorem arx {W W':World}{row:Option Nat}(h:W.grownBy W' row)(hr:∀g,row=some g→∃cs t fr,W.heap[g]? =some (.cells cs t fr)):KeepsOthers W W':=⟨h.size,fun k o hk ho=>(h.block k (aA hk) fun e=>by
 obtain⟨cs,t,fr,h1⟩:=hr k e.symm
 rw[hk]at h1
 cases h1
 simp[Obj.isCells]at ho).trans hk⟩
theorem aum {w W:World}{D:Nat}{v:Value}{l:List Ov}(h:aV 106 w.heap.size W v l∧Below w.heap.size w W)(hD:w.heap.size≤D)(hK:W.heap[D]? =some (.deferred (some []))):aV 106 w.heap.size (W.putObj D (.deferred none)) v l∧Below w.heap.size w (W.putObj D (.deferred none)):=by
 refine⟨h.1.kept (grownBy_putObj' W D (.deferred none)) ?_,h.2.grown (grownBy_putObj' W D (.deferred none)) h.2.size fun k hk=>by cases hk;exact hD⟩
 cases hv:v.ownBlock with
 |none=>exact .inl rfl
 |some g=>
  refine .inr fun e=>?_
  cases e
  obtain⟨cs,fr,h4⟩:=h.1.xN hv
  rw[hK]at h4
  cases h4
end Go.Proofs.YtpifdeoepppadaaGreatDoor
namespace Go.Proofs.YtpifdeoepppadaaGreatDoor
open Go.RowKit Go.Maps Go.Shelf
open Bm (Ov)
set_option linter.unusedVariables false
attribute [local go_sem] Oper.semAt_some
theorem ake (B base:Nat)(w:World)(t:List Ov)(sq:ui B base w t)(hL:t.length≤1000000):
  Calls Tryz.prog 172 #[.slice none 0 0,.func (.func 198) #[] #[.pointer (some ⟨B,0,none⟩)]] w fun E w'=>∃v,E=.returned v∧aV 106 w.heap.size w' v t∧Below w.heap.size w w':=by
 obtain⟨W3,hW3,fZ,b3,B3⟩:=ay w #[.slice none 0 0] 30
 have sq3:=sq.below b3
 have aBt:=hide (ao8 5 (by omega) B base t W3 sq3 hL)
 have SQL:Hid (∀g,vZ B W3 g→g<w.heap.size):=hide fun g hg=>by
  obtain⟨h1,v,h2,h3⟩:=sq
  rcases hg with rfl|⟨u,hu,hg⟩
  ·exact aA h2
  ·have c0:W3.cell? ⟨B,0,none⟩=some v:=(b3.cell (p:=⟨B,0,none⟩) (aA h2)).trans (ai h2 0 rfl)
   rw[c0]at hu
   cases hu
   exact(h3.block g hg).2
 have HO3:=hide B3
 have Hb3:=hide b3
 have zk:w.heap.size<W3.heap.size:=by omega
 have hszz:=hide fZ
 have HKN:Hid (∀W W',Out (fun g=>g=w.heap.size) W3 W→Out (fun g=>g=w.heap.size) W3 W'→Kn (vZ B W3) W W'):=hide fun W W' h1 h2 g hg=>by
  have q2:=SQL.out g hg
  have hne:¬g=w.heap.size:=by omega
  rw[h1.block g (by omega) hne,h2.block g (by omega) hne]
 clear sq sq3 B3 b3 fZ
 refine(callsIn_wide (n:=6)).1 ?_
 refine callsIn_of_wp_marks Tryz.func172 rfl trivial ?_ rfl
 simp only[Tryz.ntmps172,List.size_toArray,List.length_cons,List.length_nil,Nat.reduceAdd,Nat.reduceSub,Array.replicate_succ,Array.replicate_zero,List.push_toArray,List.append_toArray,List.nil_append,List.cons_append]
 gi_wp2_with fail
 apply wpIn_rangeFunc_ownH rfl (by omega) (gf:=198) (lb:=#[.pointer (some ⟨B,0,none⟩)]) rfl trivial (enters_of Tryz.func198 (by kernel_rfl) rfl) (encs:=fun x:Nx t.length=>#[ovv (pt t x)]) (Kp:=Kn (vZ B W3)) (S:=fun xs=>xs=upn t.length t.length) (Sp:=fun pre=>∃k,k≤t.length∧pre=upn t.length k) (N:=t.length) (w0:=W3) aBt.out Kn.trans (ax6 (fun g hg=>by have:=SQL.out g hg;omega)) (Below.refl _ _) (fun _=>rfl)
  (fun pre W=>RI w.heap.size W3 (pts t pre) W)
  (fun c pre W=>False)
  (fun s X Y row hs hg hr=>hs.grown zk hg hr)
  (fun c s X Y row hs hg hr=>hs)
  ⟨.slice none 0 0,HO3.out,aV.nil _ _ _,Out.refl _ _⟩
  (fun x a' W=>∃q,a'={tmps:=#[.slice none 0 0,.func (.func 198) #[] #[.pointer (some ⟨B,0,none⟩)],.pointer (some ⟨w.heap.size,0,none⟩),undef,.slice none 0 0,.pointer (some ⟨q,0,none⟩),.func (.func 198) #[] #[.pointer (some ⟨B,0,none⟩)],ovv (pt t x),undef,undef,undef,undef,undef],defers:=[]}∧W.heap[q]? =some (.cells #[.bool (pt t x).p,.string (pt t x).k,.string (pt t x).v] 106 (0,0)))
  (fun x a' s X Y row hs hg hr=>by
   obtain⟨q,h1,h2⟩:=hs
   refine⟨q,h1,(hg.block q (aA h2) fun e=>?_).trans h2⟩
   obtain⟨_,o,h3,h4⟩:=hr q e.symm
   rw[h2]at h3
   cases h3
   simp[Obj.isCells]at h4)
 case hassign=>
  rintro l0 pre x W K hI hK
  obtain⟨o,ho⟩:∃o,pt t x=o:=⟨_,rfl⟩
  rw[ho]at hK⊢
  unfold ovv at hK⊢
  obtain⟨V,hV,fE,bV,BV⟩:=ay W #[.bool o.p,.string o.k,.string o.v] 106
  have hI2:RI w.heap.size W3 (pts t pre) V:=by rw[←hV];exact hI.grown zk (World.grownBy_alloc _ _ none) (fun r e=>by cases e)
  have hO1:Out (fun g=>g=w.heap.size) W3 W:=by obtain⟨_,_,_,h⟩:=hI;exact h
  have hO2:Out (fun g=>g=w.heap.size) W3 V:=by obtain⟨_,_,_,h⟩:=hI2;exact h
  have HKK:=hide (hK _ V ((KeepsOthers.from ⟨bV.size,fun k o hk _=>(bV.block k (aA hk)).trans hk⟩ _)) (HKN.out _ _ hO1 hO2) hI2 ⟨W.heap.size,rfl,BV⟩)
  clear hK hI hI2 hO1 hO2 bV BV
  gi_wp2
  exact HKK.out
 case hbody=>
  rintro l0 pre x a' W _ _ ⟨v,h1,h2,h3⟩ ⟨q,rfl,hq⟩ alz
  have hlen:(pts t pre).length=pre.length:=atI t pre
  obtain⟨ao,cap,hv,_,_⟩:=h2.is.shape
  rw[hlen]at hv
  have aAy:=h3.size
  have c1:=ai h1 0 rfl
  have q0:=ai hq 0 rfl
  have q1:=ai hq 1 rfl
  have q2:=ai hq 2 rfl
  have hsn:=ahO t pre x
  obtain⟨o,ho⟩:∃o,pt t x=o:=⟨_,rfl⟩
  rw[ho]at q0 q1 q2 hsn⊢
  obtain⟨V,hV,fE,bV,iE⟩:=lN 106 W #[.bool o.p,.string o.k,.string o.v] 1 [o] rfl rfl (by simp[maxLen])
  have bq:=h2.below bV
  have cV:=(iE.is)
  have hcells:∀j u,(ocells [o])[j]? =some u→V.cell? ((⟨W.heap.size,0,none⟩:Addr).add j)=some u:=by
   rcases cV with⟨h,_⟩|⟨ad,cp,h,_,_,hc⟩
   ·cases h
   ·cases h
    exact hc
  have aqD:((pts t pre).length+[o].length)*40≤140737488355328:=by rw[hlen];simp;omega
  have hzV:W3.heap.size≤V.heap.size:=by omega
  have aA6:Hid (∀v' w',aV 106 W3.heap.size w' v' (pts t pre++[o])→Below W3.heap.size V w'→V.grownBy w' v.ownBlock→(w'.cell? ⟨w.heap.size,0,none⟩=some v∧w'.frozen? ⟨w.heap.size,0,none⟩=false)∧KeepsFrom W3.heap.size W (w'.setCell ⟨w.heap.size,0,none⟩ v')∧Kn (vZ B W3) W (w'.setCell ⟨w.heap.size,0,none⟩ v')∧RI w.heap.size W3 (pts t (pre++[x])) (w'.setCell ⟨w.heap.size,0,none⟩ v')):=hide fun v' w' ho' hb' hg'=>by
   obtain⟨r1,r2⟩:=RI.app zk aAy h1 h3 bV ho' hb'
   have hO2:Out (fun g=>g=w.heap.size) W3 (w'.setCell ⟨w.heap.size,0,none⟩ v'):=by obtain⟨_,_,_,h⟩:=r1;exact h
   refine⟨⟨ai r2 0 rfl,az r2 0⟩,?_,HKN.out _ _ h3 hO2,by rw[hsn];exact r1⟩
   have k1:KeepsOthers W V:=⟨bV.size,fun k o hk _=>(bV.block k (aA hk)).trans hk⟩
   have k2:KeepsOthers V w':=arx hg' fun g hg=>by obtain⟨cs,fr,h⟩:=bq.xN hg;exact⟨cs,_,fr,h⟩
   exact((k1.trans k2).trans (KeepsOthers.setCell _ _ _)).from _
  have aAd:=Tryz.nR
  have HV:=hide hv
  rw[hv]at c1 bq
  clear h2 h3 h1 hq hsn hlen bV iE cV hv
  gi_wp2_with (gi_at_builtin;refine xQ rfl (.tmp 8) (.tmp 10) 30 rfl 106 W3.heap.size Tryz.underlying30 aAd _ (pts t pre) rfl bq ⟨W.heap.size,0,none⟩ [o] 1 rfl hcells aqD hzV ?_)
  intro v' w' ho' hb' hg'
  obtain⟨ao2,cap2,axo,_,_⟩:=ho'.is.shape
  obtain⟨L2,hL2⟩:∃L2,(pts t pre++[o]).length=L2:=⟨_,rfl⟩
  rw[hL2]at axo
  clear hL2
  subst axo
  have HH:=hide (aA6.out _ w' ho' hb' (by rw[HV.out];exact hg'))
  have cz:=HH.out.1.1
  have fz:=HH.out.1.2
  rw[HV.out]at cz
  clear ho' hb' hg' c1 q0 q1 q2 bq hcells
  gi_wp2
  exact HH.out.2
 case hdone=>
  rintro D xs W hD rfl ⟨v,h1,h2,h3⟩ hK
  rw[auY]at h2
  have c1:=ai h1 0 rfl
  have hE:Hid (aV 106 w.heap.size W v t∧Below w.heap.size w W):=hide ⟨h2.bz (by omega),Hb3.out.trans (h3.below (fun g hg=>by omega) (by omega))⟩
  have xM:=hide hK
  have hD':w.heap.size≤D:=by omega
  clear h1 h2 h3 hK
  gi_wp2
  refine⟨by simp,.inl ⟨_,_,rfl,run_takeDeferred xM.out,?_⟩⟩
  obtain⟨f1,f2⟩:=aum hE.out hD' xM.out
  refine⟨v,?_,v,rfl,f1,f2⟩
  simp[results,Tryz.results172,go_sem]
 case hstop=>
  rintro D c pre W hD _ hf hK
  exact hf.elim
theorem aip (B base:Nat)(w:World)(t:List Ov)(sq:ui B base w t)(hL:t.length≤1000000):
  Calls Tryz.prog 126 #[.func (.func 198) #[] #[.pointer (some ⟨B,0,none⟩)]] w fun E w'=>∃v,E=.returned v∧aV 106 w.heap.size w' v t∧Below w.heap.size w w':=by
 have HA:=hide (ake B base w t sq hL)
 clear sq
 go_enter Tryz.func126,Tryz.ntmps126
 go_wp2_with fail
 refine HA.out.mono ?_
 rintro E w1 ⟨v,rfl,o1,b1⟩
 have O1:=hide o1
 obtain⟨a,k,hv,_,_⟩:=o1.is.shape
 subst hv
 clear o1
 go_wp2
 go_ret
 exact⟨_,rfl,O1.out,b1⟩
end Go.Proofs.YtpifdeoepppadaaGreatDoor
namespace Go.Proofs.YtpifdeoepppadaaGreatDoor
open Go.RowKit
set_option linter.unusedVariables false
theorem ahK (vb:Value)(bs:List Int)(w:World)(hb:Is .u8 w vb bs)(hl:bs.length≤140737488355328):
  Calls Tryz.prog 191 #[vb] w fun E w'=>∃(e n g:Int) (v:Value) (l:List Bm.Ov),E=.returned (.tuple #[cZ e n v,.int .i64 g])∧aV 106 w.heap.size w' v l∧Cm.gH bs e n l g∧Below w.heap.size w w':=by
 unfold cZ
 obtain⟨w1,hw1,bH,ax,hB⟩:=ay w #[.int .i64 0,.int .i64 0,.slice none 0 0] 32
 have hb1:=hb.below ax
 obtain⟨ao,cap,rfl,_,_⟩:=hb.shape
 have HB:=hide hB
 clear hB
 go_enter Tryz.func191,Tryz.ntmps191
 go_wp2_with fail
 refine(amR _ bs _ hb1 (by omega)).mono ?_
 rintro E w2 ⟨e,n,k,g,vl,l,rfl,yn,hR,aB⟩
 unfold cZ
 have fA:=aB.size
 have hB2:=(aB.block w.heap.size (by omega)).trans HB.out
 have aY:=ax.trans (aB.mono (by omega))
 obtain⟨ah,ch,hvl,_,_⟩:=yn.is.shape
 subst hvl
 obtain⟨V,hV,hV2,fE,bn,bC,c0,c1,c2⟩:=dO w2 32 (.int .i64 0) (.int .i64 0) (.slice none 0 0) (.int .i64 e) (.int .i64 n) (.slice ah l.length ch)
 have hB3:=(bn.block w.heap.size (by omega)).trans hB2
 have aj3:=aY.trans (bn.mono (by omega))
 obtain⟨Z,hZ,bZ,gZ,⟨a0,a1,a2⟩,⟨f0,f1,f2⟩,⟨z0,z1,z2⟩⟩:=dN hB3 (.int .i64 0) (.int .i64 0) (.slice none 0 0)
 have aaY:=aK aj3 gZ (Nat.le_refl _) (by omega)
 have H3:=hide hB3
 have HC:=hide bC
 have iE:=yn.below bn
 clear hB2 hB3 bC bZ gZ ax aB aY HB yn hb1
 rcases hR with⟨rfl,x,y,hx,hy,px,py,hc,hp,rfl,rfl,rfl⟩|⟨rfl,rfl,rfl,rfl,rfl,hno⟩
 ·by_cases hk:Vm.sz x+Vm.sz y+(Bm.eQ l).length=bs.length
  ·have HK:=hide hk
   rw[hk]
   have hkk:((bs.length:Int) !=(bs.length:Int))=false:=by simp
   have hfit:=(rD hc).fit
   have hl8:=(Bm.dM hc).2.1
   have P:Hid (Vm.enc x<+:bs∧Vm.enc y<+:bs.drop (Vm.sz x)∧Bm.eF l=0∧Bm.eQ l<+:bs.drop (Vm.sz x+Vm.sz y)):=⟨px,py,hc,hp⟩
   clear hk px py hc hp
   go_wp2_with fail
   refine(wW x y _ l _ iE.is hfit (by omega)).mono ?_
   rintro E w4 ⟨rfl,aS⟩
   obtain⟨px,py,hc,hp⟩:=P.out
   have pK:=aS.size
   have hB4:=(aS.block w.heap.size (by omega)).trans H3.out
   have hC4:=(aS.block w2.heap.size (by omega)).trans HC.out
   have dF:=aj3.trans (aS.mono (by omega))
   have d0:=ai hC4 0 rfl
   have d1:=ai hC4 1 rfl
   have d2:=ai hC4 2 rfl
   have bM:=iE.below aS
   clear hZ z0 z1 z2 aaY a0 a1 a2 f0 f1 f2 c0 c1 c2 hV hV2 bn aj3 iE H3 HC aS P
   by_cases hck:Cm.aJ x y l=0
   ·rw[hck]
    obtain⟨V',hV',ic,dK,⟨a0,a1,a2⟩,⟨f0,f1,f2⟩,⟨z0,z1,z2⟩⟩:=dN hB4 (.int .i64 x) (.int .i64 y) (.slice ah l.length ch)
    have eO:=aK dF dK (Nat.le_refl _) (by omega)
    have qi:=(bM.qz dK (by omega)).bz (base':=w.heap.size) (by omega)
    have HR:Hid (Cm.gH bs x y l 0):=hide (.inl ⟨rfl,hck,Cm.an4 px py hp HK.out⟩)
    clear px py hc hp ic dK hB4 bM dF hck HK hC4
    go_wp2
    refine bodyPost_ret (v:=.tuple #[.agg #[.int .i64 x,.int .i64 y,.slice ah l.length ch],.int .i64 0]) (by simp[results,Tryz.results191,go_sem,z0,z1,z2]) rfl ?_
    exact⟨_,_,_,_,_,rfl,qi,HR.out,eO⟩
   ·have HR:Hid (Cm.gH bs 0 0 [] 5):=hide (.inr ⟨rfl,rfl,rfl,rfl,Cm.ajx px py hc hp (.inr hck)⟩)
    have hne:(Cm.aJ x y l==0)=false:=by simpa using hck
    obtain⟨V',hV',ic,dK,⟨a0,a1,a2⟩,⟨f0,f1,f2⟩,⟨z0,z1,z2⟩⟩:=dN hB4 (.int .i64 0) (.int .i64 0) (.slice none 0 0)
    have eO:=aK dF dK (Nat.le_refl _) (by omega)
    generalize Cm.aJ x y l=ck at*
    clear px py hc hp ic dK hB4 bM dF hck HK hC4
    go_wp2
    refine bodyPost_ret (v:=.tuple #[.agg #[.int .i64 0,.int .i64 0,.slice none 0 0],.int .i64 5]) (by simp[results,Tryz.results191,go_sem,z0,z1,z2]) rfl ?_
    exact⟨_,_,_,_,_,rfl,aV.nil _ _ _,HR.out,eO⟩
  ·have HR:Hid (Cm.gH bs 0 0 [] 5):=hide (.inr ⟨rfl,rfl,rfl,rfl,Cm.ajx px py hc hp (.inl hk)⟩)
   generalize Vm.sz x+Vm.sz y+(Bm.eQ l).length=q at*
   have hkk:((q:Int) !=(bs.length:Int))=true:=by simp;omega
   clear hk px py hc hp
   go_wp2
   refine bodyPost_ret (v:=.tuple #[.agg #[.int .i64 0,.int .i64 0,.slice none 0 0],.int .i64 5]) (by simp[results,Tryz.results191,go_sem,z0,z1,z2]) rfl ?_
   exact⟨_,_,_,_,_,rfl,aV.nil _ _ _,HR.out,aaY⟩
 ·have HR:Hid (Cm.gH bs 0 0 [] 5):=hide (.inr ⟨rfl,rfl,rfl,rfl,hno⟩)
  clear hno
  simp only[List.length_nil]at hV hV2 c2
  go_wp2
  refine bodyPost_ret (v:=.tuple #[.agg #[.int .i64 0,.int .i64 0,.slice none 0 0],.int .i64 5]) (by simp[results,Tryz.results191,go_sem,z0,z1,z2]) rfl ?_
  exact⟨_,_,_,_,_,rfl,aV.nil _ _ _,HR.out,aaY⟩
structure Fst (w wr:World) (g m cap:Nat) (rest:List Cw) (k:Nat) (rk:List Cw):Prop where
 row:bG 32 w.heap.size wr (.slice (some ⟨g,0,none⟩) m cap) rk
 len:rk.length=m
 left:rk.drop k=rest.drop k
 gT:fC w.heap.size wr (rk.take k)
 is:aD rk=aD rest
 ap:nH (rk.take k)
 aF:Below w.heap.size w wr
theorem Fst.next {w wr w2 w3:World}{g m cap:Nat}{rest rk:List Cw}{k:Nat}(h:Fst w wr g m cap rest k rk){c:Cw}(hc:rest[k]? =some c)(hk:k<m){v':Value}(ho:aV 106 wr.heap.size w2 v' c.l)(hb:Below wr.heap.size wr w2)
  (hr:bG 32 w.heap.size w3 (.slice (some ⟨g,0,none⟩) m cap) (rk.set k ⟨c.e,c.n,v',c.l⟩)) (hg:w2.grownBy w3 (some g)):Fst w w3 g m cap rest (k+1) (rk.set k ⟨c.e,c.n,v',c.l⟩):=by
 have hlen:=h.len
 have rZ:rk[k]? =some c:=by
  have e1:(rk.drop k)[0]? =(rest.drop k)[0]? :=by rw[h.left]
  rw[List.getElem?_drop,List.getElem?_drop]at e1
  simpa using e1.trans (by simpa using hc)
 have htk:(rk.set k ⟨c.e,c.n,v',c.l⟩).take (k+1)=rk.take k++[⟨c.e,c.n,v',c.l⟩]:=by
  rw[List.take_succ_eq_append_getElem (by rw[List.length_set];omega),List.take_set_of_le (Nat.le_refl _)]
  simp
 have hrow2:bG 32 w.heap.size w2 (.slice (some ⟨g,0,none⟩) m cap) rk:=h.row.below hb
 have kt:bK 32 w2 w3:=bK.pI hrow2 hg
 refine⟨hr,by rw[List.length_set];exact hlen,?_,?_,?_,?_,?_⟩
 ·rw[List.drop_set_of_lt (by omega),←List.drop_drop,h.left,List.drop_drop]
 ·rw[htk]
  exact((h.gT.below hb).gq kt).snoc (c:=⟨c.e,c.n,v',c.l⟩) ((ho.gq kt (by decide)).bz h.aF.size)
 ·rw[←h.is]
  unfold aD
  rw[List.map_set]
  apply List.ext_getElem?
  intro i
  rw[List.getElem?_set]
  by_cases hik:k=i
  ·subst hik
   rw[if_pos rfl,if_pos (by rw[List.length_map];omega),List.getElem?_map,rZ]
   rfl
  ·rw[if_neg hik]
 ·rw[htk]
  refine vH (N:=wr.heap.size) h.ap (fun d hd b hb=>((h.gT d hd).block b hb).2) fun b hb=>(aV.block ho b hb).1
 ·have b2:=h.aF.trans (hb.mono h.aF.size)
  refine b2.grown hg b2.size fun i hi=>?_
  have:=(World.ownsRow.lt h.row g rfl).1
  simp only[Option.some.injEq]at hi
  omega
end Go.Proofs.YtpifdeoepppadaaGreatDoor

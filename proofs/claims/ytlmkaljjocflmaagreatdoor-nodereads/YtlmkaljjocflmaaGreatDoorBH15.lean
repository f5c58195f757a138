/- Texts. -/
import Derived.Test.YtlmkaljjocflmaaGreatDoorBH3
import Derived.Test.YtlmkaljjocflmaaGreatDoorBH8
import Derived.Test.YtlmkaljjocflmaaGreatDoorBZIter
import Derived.Test.YtlmkaljjocflmaaGreatDoorBZRg
set_option maxRecDepth 100000
set_option maxHeartbeats 8000000
set_option linter.unusedVariables false
open Go.Proofs.Tryz
namespace Go.Proofs.YtlmkaljjocflmaaGreatDoor
open Go.RowKit
theorem yM {V:World}{R:Nat}{t:TypeId}{x y z:Value}(hR:V.heap[R]? =some (.cells #[x,y,z] t (0,0)))(c:Value):
  ∃V',V.setCell ⟨R,2,none⟩ c=V'∧V'.heap[R]? =some (.cells #[x,y,c] t (0,0))∧V.grownBy V' (some R)∧V.cell? ⟨R,2,none⟩=some z∧V.frozen? ⟨R,2,none⟩=false:=
 ⟨_,rfl,aF hR 2 c,ax V ⟨R,2,none⟩ c,ai hR 2 rfl,aA hR 2⟩
theorem yt (e n:Int)(v:Value)(l:List Bm.Ov)(w:World)(h:bM w v l)(hl:l.length*40≤140737488351232):
  Calls prog 64 #[cK e n v] w fun E w'=>∃v',E=.returned (cK e n v')∧aT 71 w.heap.size w' v' l∧Below w.heap.size w w':=by
 unfold cK
 obtain⟨w1,hw1,aV,aj,hB⟩:=au w #[.int .i64 e,.int .i64 n,v] 35
 obtain⟨w2,hw2,dA,az,hR⟩:=au w1 #[.int .i64 0,.int .i64 0,.slice none 0 0] 35
 rw[aV]at hR
 have hB2:=(az.block w.heap.size (by omega)).trans hB
 have aO:Below w.heap.size w w2:=aj.trans (az.mono (by omega))
 have h2:=h.below aO
 obtain⟨ao,cap,rfl,_,_⟩:=h.shape
 have c2:=ai hB2 2 rfl
 have HB:=hide hB2
 have HR:=hide hR
 clear hB hB2 hR aj az
 go_enter func64,ntmps64
 go_wp2_with fail
 refine(abu _ l _ h2 hl).mono ?_
 rintro E w3 ⟨v3,rfl,bK,aC⟩
 have bO:=aC.size
 have hB3:=(aC.block w.heap.size (by omega)).trans HB.out
 have dP:=(aC.block (w.heap.size+1) (by omega)).trans HR.out
 have bq:=aO.trans (aC.mono (by omega))
 obtain⟨ah,ch,hvl,_,_⟩:=bK.is.shape
 subst hvl
 obtain⟨X,hX,cX,gX,q2,q3⟩:=yM hB3 (.slice ah l.length ch)
 have szX:=gX.size
 have wu:=(gX.block (w.heap.size+1) (by omega) (by simp)).trans dP
 have vH:=bK.nD gX (by omega)
 have ab0:=aG bq gX (Nat.le_refl _) (by omega)
 have d0:=ai cX 0 rfl
 have d1:=ai cX 1 rfl
 have d2:=ai cX 2 rfl
 obtain⟨V',hV',fI,dO,⟨a0,a1,a2⟩,⟨f0,f1,f2⟩,⟨z0,z1,z2⟩⟩:=gy wu (.int .i64 e) (.int .i64 n) (.slice ah l.length ch)
 have fu:=aG ab0 dO (by omega) (by omega)
 have ab1:=(vH.nD dO (by omega)).bn (base':=w.heap.size) (by omega)
 clear HB HR hB3 dP cX gX wu fI dO bK vH bq ab0 aC c2
 go_wp2
 refine bodyPost_ret (v:=.agg #[.int .i64 e,.int .i64 n,.slice ah l.length ch]) (by simp[results,results64,go_sem,z0,z1,z2]) rfl ?_
 exact⟨_,rfl,ab1,fu⟩
end Go.Proofs.YtlmkaljjocflmaaGreatDoor
namespace Go.Proofs.YtlmkaljjocflmaaGreatDoor
open Go.RowKit Go.Maps Go.Shelf
open Bm (Ov)
attribute [local go_sem] Oper.semAt_some
theorem auS (o:Ov):encStr o.kl=.string o.k:=by
 unfold encStr Bm.Ov.kl
 rw[Array.toArray_toList]
theorem ayU {t:List Ov}{o:Ov}(h:Tm.Up t)(ho:o∈t):gv t o.k=o.v∧gp t o.k=o.p:=by
 unfold gv gp
 rw[Tm.get_mem h ho]
 exact⟨rfl,rfl⟩
theorem aqt (p b:Nat)(w:World)(t:List Ov)(h:Tb p b w t)(hf:dZ t)(hn:t.length≤1000000):
  Calls prog 318 #[.pointer (some ⟨p,0,none⟩)] w fun E w'=>∃v,E=.returned v∧aT 71 w.heap.size w' v t∧Below w.heap.size w w':=by
 have HM:=hide (rF p b w h.cell)
 have hc:=h.cell
 obtain⟨W1,hW1,aV,b1,B1⟩:=au w #[.map (some b)] 165
 have HK:Hid (Calls prog 337 #[.map (some b)] w fun E w'=>E=.returned (.func (.func 347) #[] #[.pointer (some ⟨w.heap.size,0,none⟩)])∧W1=w'):=hide (by
  refine(callsIn_wide.1 (Tryz.maps_Keys_337 (some b) w)).mono ?_
  rintro E w' ⟨rfl,rfl⟩
  exact⟨rfl,hW1.symm⟩)
 have HS:Hid (Calls prog 336 #[.func (.func 347) #[] #[.pointer (some ⟨w.heap.size,0,none⟩)]] W1 fun E w'=>∃v,E=.returned v∧w'.ownsRow (w.heap.size+1) 9 1 v t.length (t.map fun o=>.string o.k)∧Below (w.heap.size+1) W1 w'):=hide (by
  have:=callsIn_wide.1 (Tryz.slices_Sorted_keys_336_337 b t.length (Tm.dat t) Ren w h.own (by rw[Tm.vE];unfold maxLen;omega) (by rw[Tm.vE];omega))
  rw[hW1,aV]at this
  refine this.mono ?_
  rintro E w' ⟨v,ss,rfl,hp,hr,_,hb⟩
  have e1:=Tm.akH h.up hp
  have e2:ss.length=t.length:=by
   have:=hp.length_eq
   rw[Tm.afH,List.length_map]at this
   exact this
  rw[e1,e2,List.map_map]at hr
  refine⟨v,rfl,?_,hb⟩
  have e3:(t.map fun o=>Value.string o.k)=t.map (encStr ∘ Bm.Ov.kl):=List.map_congr_left fun o _=>(auS o).symm
  rw[e3]
  exact hr)
 have HT0:=hide h
 have HF:=hide hf
 have Hb1:=hide b1
 clear hf h B1 b1
 go_enter func318,ntmps318
 go_wp2_with fail
 refine HM.out.mono ?_
 rintro E w' ⟨rfl,rfl⟩
 go_wp2_with fail
 refine HK.out.mono ?_
 rintro E w' ⟨rfl,rfl⟩
 go_wp2_with fail
 refine HS.out.mono ?_
 rintro E W2 ⟨v,rfl,hrow,b2⟩
 have b02:Below w.heap.size w W2:=Hb1.out.trans (b2.mono (by omega))
 have HT2:=hide (HT0.out.below b02)
 have dA:w.heap.size+1≤W2.heap.size:=by have:=b2.size;omega
 obtain⟨n,hnn⟩:∃n,t.length=n:=⟨_,rfl⟩
 have apX:Hid (∀(k:Nat) (o:Ov),t[k]? =some o→∃g cap,v=.slice (some ⟨g,0,none⟩) n cap∧g<W2.heap.size∧W2.cell? ⟨g,k,none⟩=some (.string o.k)):=hide (by
  intro k o ho
  have hk:k<t.length:=(List.getElem?_eq_some_iff.1 ho).1
  rcases hrow.2 with⟨hv,h0⟩|⟨g,cap,cur,hv,h1,hh,_⟩
  ·omega
  ·have hb:v.ownBlock=some g:=by rw[hv];rfl
   have:=hrow.cells hb k (.string o.k) (by rw[List.getElem?_map,ho];rfl)
   refine⟨g,cap,by rw[hv,hnn],ay hh,?_⟩
   rw[gG,Nat.zero_add]at this
   exact this)
 obtain⟨ao,cap,hv⟩:∃ao cap,v=.slice ao n cap:=by
  rcases hrow.2 with⟨hv,h0⟩|⟨g,cap,cur,hv,h1,hh,_⟩
  ·exact⟨none,0,by rw[hv,←hnn,h0]⟩
  ·exact⟨_,cap,by rw[hv,hnn]⟩
 subst hv
 have HN:=hide hnn
 rw[hnn]at hn
 have aAU:=hide b02
 clear hrow b2 hc hnn b02
 go_wp2
 go_loopw [17,3] (fun i ov wr=>∃(k:Nat),k≤n∧i=.int .i64 k∧Hid (aT 71 W2.heap.size wr ov (t.take k))∧Below W2.heap.size W2 wr) (fun i _ _=>n-(intOf i).toNat)
 case atStart=>exact⟨0,by omega,rfl,hide (aT.nil _ _ _),Below.refl _ _⟩
 case round=>
  obtain⟨k,hk,rfl,HOW,aI⟩:=hrel
  have sz:=aI.size
  by_cases hlt:k<n
  ·obtain⟨o,ho⟩:∃o,t[k]? =some o:=⟨t[k]'(by have:=HN.out;omega),by rw[List.getElem?_eq_getElem]⟩
   have hlt':(k:Int)<n:=by omega
   obtain⟨g,cq,dI,hg,hcell⟩:=apX.out k o ho
   simp only[Value.slice.injEq,true_and]at dI
   obtain⟨rfl,rfl⟩:=dI
   have d0:=(aI.cell (p:=⟨g,k,none⟩) hg).trans hcell
   have Tr:=HT2.out.below aI
   have hm:=List.mem_of_getElem? ho
   obtain⟨f1,f2⟩:=HF.out o hm
   obtain⟨e1,e2⟩:=ayU Tr.up hm
   have hlk:=aiA Tr o.k (by unfold maxLen;omega) false
   rw[e1,e2]at hlk
   unfold env at hlk
   have pc:=Tr.cell
   obtain⟨W3,hW3,bO,b3,B3⟩:=au wr #[.string o.v,.bool o.p] 171
   have x0:=ai B3 0 rfl
   have x1:=ai B3 1 rfl
   obtain⟨W4,hW4,iK,b4,bz⟩:=qO 71 W3 #[.bool o.p,.string o.k,.string o.v] 1 [o] rfl rfl (by simp[maxLen])
   have b34:Below wr.heap.size wr W4:=b3.trans (b4.mono (by omega))
   have b24:Below W2.heap.size W2 W4:=aI.trans (b34.mono sz)
   have av3:=HOW.out.below b34
   have is4:=bz.is
   have hlen:((t.take k).length+[o].length)*40≤140737488355328:=by rw[List.length_take];simp;omega
   have hz4:W2.heap.size≤W4.heap.size:=b24.size
   have HO:=hide ho
   have az9:=hide b24
   clear Tr e1 e2 ho hm B3 b3 b4 bz b34 b24 hcell aI HOW
   simp only[if_false,Bool.false_eq_true]at hlk
   rw[bO]at is4
   go_wp2_with (at_builtin;refine kT rfl (.tmp 27) (.tmp 34) 33 rfl 71 W2.heap.size underlying33 Tryz.wY _ (t.take k) rfl av3 _ [o] rfl is4 hlen hz4 ?_)
   rintro v' w' ho' hb' _
   have HO2:Hid (aT 71 W2.heap.size w' v' (t.take (k+1))):=hide (by
    obtain⟨hk',hk2⟩:=List.getElem?_eq_some_iff.1 HO.out
    rw[List.take_succ_eq_append_getElem hk',hk2]
    exact ho')
   have HB2:=hide (az9.out.trans hb')
   clear ho' hb' av3 is4 d0 hlk pc hW3 hW4
   go_wp2
   go_roundw
   case rel=>exact⟨k+1,by omega,by go_num,HO2,HB2.out⟩
   case measure=>simp[intOf];omega
  ·have hlt':¬(k:Int)<n:=by omega
   have HE:Hid (aT 71 W2.heap.size wr _ t):=hide (by
    have h1:=HOW.out
    rw[List.take_of_length_le (by have:=HN.out;omega)]at h1
    exact h1)
   go_wp2
   go_ret
   exact⟨_,rfl,HE.out.bn (by omega),aAU.out.trans (aI.mono (by omega))⟩
def sI (B base:Nat) (w:World) (t:List Ov):Prop:=base≤B∧∃v,w.heap[B]? =some (.cells #[v] 33 (0,0))∧aT 71 base w v t
theorem sI.below {B base:Nat}{w w':World}{t:List Ov}(h:sI B base w t)(hb:Below w.heap.size w w'):sI B base w' t:=by
 obtain⟨h1,v,h2,h3⟩:=h
 exact⟨h1,v,(hb.block B (ay h2)).trans h2,h3.below hb⟩
theorem aty {w W1 W2:World}{v:Value}{t:List Ov}(ho:aT 71 w.heap.size W1 v t)(b1:Below w.heap.size w W1)(hB:W2.heap[W1.heap.size]? =some (.cells #[v] 33 (0,0)))(b2:Below W1.heap.size W1 W2):sI W1.heap.size w.heap.size W2 t∧Below w.heap.size w W2:=
 ⟨⟨b1.size,v,hB,ho.below b2⟩,b1.trans (b2.mono b1.size)⟩
theorem as4 (tv:Value)(w:World)(t:List Ov)(hm:Calls prog 318 #[tv] w fun E w'=>∃v,E=.returned v∧aT 71 w.heap.size w' v t∧Below w.heap.size w w'):
  Calls prog 292 #[tv] w fun E w'=>∃B,E=.returned (.func (.func 335) #[] #[.pointer (some ⟨B,0,none⟩)])∧sI B w.heap.size w' t∧Below w.heap.size w w':=by
 have HM:=hide hm
 clear hm
 go_enter func292,ntmps292
 go_wp2_with fail
 refine HM.out.mono ?_
 rintro E W1 ⟨v,rfl,ho,b1⟩
 obtain⟨W2,hW2,dA,b2,B2⟩:=au W1 #[v] 33
 have HE:=hide (aty ho b1 B2 b2)
 have HV:Hid (Calls prog 317 #[v] W1 fun E w'=>E=.returned (.func (.func 335) #[] #[.pointer (some ⟨W1.heap.size,0,none⟩)])∧W2=w'):=hide (by
  obtain⟨ao,cap,hv,_,_⟩:=ho.is.shape
  subst hv
  clear HM HE ho b1 b2 B2
  go_enter func317,ntmps317
  go_wp2
  go_ret
  exact⟨rfl,rfl⟩)
 clear ho b1 b2 B2 hW2
 go_wp2_with fail
 refine HV.out.mono ?_
 rintro E w' ⟨rfl,rfl⟩
 go_wp2
 go_ret
 exact⟨_,rfl,HE.out⟩
end Go.Proofs.YtlmkaljjocflmaaGreatDoor
namespace Go.Proofs.YtlmkaljjocflmaaGreatDoor
open Go.RowKit Go.Maps Go.Shelf
open Bm (Ov)
attribute [local go_sem] Oper.semAt_some
def pt (t:List Ov) (x:Nx t.length):Ov:=t[x.1]'x.2
def pts (t:List Ov) (xs:List (Nx t.length)):List Ov:=xs.map (pt t)
theorem aue (t:List Ov)(xs:List (Nx t.length)):(pts t xs).length=xs.length:=by simp[pts]
theorem agK (t:List Ov)(xs:List (Nx t.length))(x:Nx t.length):pts t (xs++[x])=pts t xs++[pt t x]:=by simp[pts]
theorem amM (t:List Ov):∀k,k≤t.length→pts t (upn t.length k)=t.take k
 |0,_=>by simp[upn,pts]
 |k+1,h=>by
  rw[uU _ k (by omega),agK,amM t k (by omega),List.take_succ_eq_append_getElem (by omega)]
  rfl
theorem atl (t:List Ov):pts t (upn t.length t.length)=t:=by rw[amM t _ (Nat.le_refl _),List.take_length]
theorem aq2 {S:Nat→Prop}{w W:World}(hS:∀g,S g→g<w.heap.size)(h:Kn S w W)(o:Obj):Kn S w (W.alloc o):=fun g hg=>by
 have h1:=h g hg
 have h2:g<W.heap.size:=by
  have h3:=hS g hg
  rw[Array.getElem?_eq_getElem h3]at h1
  exact(Array.getElem?_eq_some_iff.1 h1).1
 exact(Below.heap_alloc W o g h2).trans h1
theorem aow (n:Nat)(hn:1≤n)(l B:Nat)(t:List Ov)(sv:Value)(S:Nat→Prop)(hSB:S B)(hSv:∀b,sv.ownBlock=some b→S b)(ry:t.length≤1000000)(J Jx:List (Nx t.length)→World→Prop)(W:World)(hSW:∀g,S g→g<W.heap.size)(hJ:AbidesFrom W.heap.size J)
  (hY:∀pre x W1,J pre W1→pre.length<t.length→YieldAt Fence.wide (n-1) prog l #[ovv (pt t x)] W1 fun e W'=>(e=.returned (.bool true)∧J (pre++[x]) W'∧Kn S W1 W')∨(e=.returned (.bool false)∧Jx (pre++[x]) W'))
  (hB:W.cell? ⟨B,0,none⟩=some sv) (his:bM W sv t) (h0:J [] W):
  CallsIn Fence.wide n prog 335 #[.func (.yield l) #[] #[],.pointer (some ⟨B,0,none⟩)] W fun e W'=>(∃v,e=.returned v)∧((∃xs,xs=upn t.length t.length∧J xs W')∨(∃pre,(∃k,k≤t.length∧pre=upn t.length k)∧Jx pre W')):=by
 have hro:Fence.wide.round=none:=rfl
 obtain⟨ao,cap,hsv,hcap,hcm⟩:=his.shape
 have iR:=hide fun(h0:0<t.length)=>his.full h0
 subst hsv
 have tL:=hide hSW
 have HJ0:=hide hJ
 have HY:=hide hY
 clear his hSW hJ hY
 refine callsIn_of_wp func335 rfl trivial ?_ hro
 simp only[ntmps335,List.size_toArray,List.length_cons,List.length_nil,Nat.reduceAdd,Nat.reduceSub,Array.replicate_succ,Array.replicate_zero,List.push_toArray,List.append_toArray,List.nil_append,List.cons_append]
 gi_wp2
 gi_loopw [7] (fun iv wr=>∃k:Nat,k≤t.length∧iv=.int .i64 k∧Hid (J (upn t.length k) wr)∧Kn S W wr) (fun iv _=>t.length-(intOf iv).toNat)
 case atStart=>exact⟨0,Nat.zero_le _,rfl,h0,fun _ _=>rfl⟩
 case round=>
  obtain⟨k,hk,rfl,HJ,hK⟩:=hrel
  by_cases hlt:k<t.length
  ·obtain⟨b,off,cq,dI,_,_,hb,hcell⟩:=iR.out (by omega)
   simp only[Value.slice.injEq,true_and]at dI
   obtain⟨rfl,rfl⟩:=dI
   obtain⟨o,ho⟩:∃o,pt t ⟨k,hlt⟩=o:=⟨_,rfl⟩
   have ho':t[k]? =some o:=by rw[List.getElem?_eq_getElem hlt,←ho];rfl
   obtain⟨c0,c1,c2⟩:=hcell k o ho'
   have hkb:=hK b (hSv b rfl)
   have d0:=(iI hkb (off+k*3)).trans c0
   have d1:=(iI hkb (off+k*3+1)).trans c1
   have d2:=(iI hkb (off+k*3+2)).trans c2
   obtain⟨W1,hW1,aV,rq,B1⟩:=au wr #[.bool o.p,.string o.k,.string o.v] 71
   have e0:W1.cell? ⟨wr.heap.size,0,none⟩=some (.bool o.p):=ai B1 0 rfl
   have e1:W1.cell? ⟨wr.heap.size,1,none⟩=some (.string o.k):=ai B1 1 rfl
   have e2:W1.cell? ⟨wr.heap.size,2,none⟩=some (.string o.v):=ai B1 2 rfl
   have HJ1:J (upn t.length k) W1:=by
    rw[←hW1]
    exact HJ0.out _ _ _ none HJ.out (World.grownBy_alloc _ _ _) (fun r e=>by cases e)
   have hK1:Kn S W W1:=by rw[←hW1];exact aq2 tL.out hK _
   obtain⟨fn,tmps,assign,body,hy,hR⟩:=HY.out _ ⟨k,hlt⟩ W1 HJ1 (by rw[aiw _ k hk];omega)
   rw[ho]at hy
   unfold ovv at hy
   have hlt':(k:Int)<t.length:=by omega
   have hk0:(0:Int)≤(k:Int):=by omega
   have HR:=hide hR
   have HK:=hide hK1
   clear hR hcell hSv B1 rq HJ1 hK hK1 c0 c1 c2 hkb ho ho'
   gi_wp2
   refine HR.out.mono ?_
   rintro e W3 (⟨rfl,hJ3,hk3⟩|⟨rfl,hJx3⟩)
   ·have qw:Hid (J (upn t.length (k+1)) W3):=hide (by rw[uU _ k hlt];exact hJ3)
    have hK4:=HK.out.trans hk3
    clear hJ3
    gi_wp2
    go_roundw
    case rel=>exact⟨k+1,by omega,by go_num,qw,hK4⟩
    case measure=>simp[intOf];omega
   ·have qw:Hid (Jx (upn t.length (k+1)) W3):=hide (by rw[uU _ k hlt];exact hJx3)
    clear hJx3
    gi_wp2
    refine bodyPost_ret (results_none rfl _ _ _) rfl ?_
    exact⟨⟨_,rfl⟩,.inr ⟨_,⟨k+1,by omega,rfl⟩,qw.out⟩⟩
  ·have hlt':¬(k:Int)<t.length:=by omega
   obtain rfl:k=t.length:=by omega
   gi_wp2
   go_end0
   exact⟨⟨_,rfl⟩,.inl HJ.out⟩
def uF (B:Nat) (w:World) (g:Nat):Prop:=g=B∨∃u,w.cell? ⟨B,0,none⟩=some u∧u.ownBlock=some g
theorem sI.lt {B base:Nat}{w:World}{t:List Ov}(h:sI B base w t):∀g,uF B w g→base≤g∧g<w.heap.size:=by
 obtain⟨hb,v,h1,h2⟩:=h
 rintro g (rfl|⟨u,hu,hg⟩)
 ·exact⟨hb,ay h1⟩
 ·have c0:w.cell? ⟨B,0,none⟩=some v:=ai h1 0 rfl
  rw[c0]at hu
  cases hu
  exact h2.block g hg
theorem ap8 (n:Nat)(hn:1≤n)(B base:Nat)(t:List Ov)(w:World)(h:sI B base w t)(ry:t.length≤1000000):
  SeqStopsK Fence.wide n prog 335 #[.pointer (some ⟨B,0,none⟩)] (fun x:Nx t.length=>#[ovv (pt t x)]) (Kn (uF B w)) (fun xs=>xs=upn t.length t.length) (fun pre=>∃k,k≤t.length∧pre=upn t.length k) t.length w:=fun l J Jx W hW hJ hJx hY h0=>by
 have hlt:=h.lt
 obtain⟨hb,v,h1,h2⟩:=h
 have c0:=ai h1 0 rfl
 refine aow n hn l B t v (uF B w) (.inl rfl) (fun b hb=>.inr ⟨v,c0,hb⟩) ry J Jx W (fun g hg=>Nat.lt_of_lt_of_le (hlt g hg).2 hW.size) hJ hY ((hW.cell (p:=⟨B,0,none⟩) (ay h1)).trans c0) (h2.is.below hW) h0
end Go.Proofs.YtlmkaljjocflmaaGreatDoor
namespace Go.Proofs.YtlmkaljjocflmaaGreatDoor
open Go.RowKit Go.Maps Go.Shelf
open Bm (Ov)
attribute [local go_sem] Oper.semAt_some
theorem wP {F:Fence}{nf:Nat}{P:Program}{w:World}{ops:Array Oper}{rest:List Oper}{o:Oper}{a:Act}{Q:Exit→Act→World→Prop}(hgd:o.guard=none)(s x:Operand)(t:TypeId)
  (ho:o.op=.call {callee:=.builtin .append,args:=#[s,x],argTypes:=#[t,t]})
  (e:TypeId) (base:Nat) (ht:P.underlying t=some (.slice e)) (hinfo:(P.info? e).map (fun i=>(i.zero,i.size,i.bytes))=some (some (.agg #[.bool false,.string ⟨#[]⟩,.string ⟨#[]⟩]),3,40))
  (v:Value) (l:List Ov) (hs:a.eval s=v) (hown:aT e base w v l) (ad:Addr) (m:List Ov) (c:Nat) (hx:a.eval x=.slice (some ad) m.length c) (hc:∀j u,(ocells m)[j]? =some u→w.cell? (ad.add j)=some u)
  (hlen:(l.length+m.length)*40≤140737488355328) (hbase:base≤w.heap.size)
  (h:∀v' w',aT e base w' v' (l++m)→Below base w w'→w.grownBy w' v.ownBlock→wpListIn F nf P ops Q rest (a.put o.dst v') w'):wpListIn F nf P ops Q (o::rest) a w:=by
 obtain⟨i,hi,hz,hsize,hb⟩:=info_parts hinfo
 have hn:l.length+m.length≤140737488355328:=by omega
 refine wpListIn_append_own w hgd s x t ho base e i _ 3 40 ht hi hz hsize hb rfl (by decide) v l.length _ hs hown ad m.length c (ocells m) hx (o9 m) hc (sG m) (by unfold maxLen;omega) hlen hbase ?_
 intro v' w' ho' hg _
 refine h v' w' (by unfold aT;rw[vK,List.length_append];exact ho') ((Below.refl _ _).grown hg hbase fun k' hk=>?_) hg
 exact(World.ownsRow.lt hown k' hk).1
theorem aT.wI {e base:Nat}{w:World}{v:Value}{l:List Ov}(h:aT e base w v l){g:Nat}(hg:v.ownBlock=some g):∃cs fr,w.heap[g]? =some (.cells cs e fr):=by
 rcases h.2 with⟨hv,_⟩|⟨g',cap,cur,hv,h1,hh,_⟩
 ·rw[hv]at hg;cases hg
 ·rw[hv]at hg
  cases hg
  exact⟨_,_,hh⟩
def RI (ob:Nat) (W3:World) (l:List Ov) (W:World):Prop:=∃v,W.heap[ob]? =some (.cells #[v] 33 (0,0))∧aT 71 W3.heap.size W v l∧Out (fun g=>g=ob) W3 W
theorem RI.grown {ob:Nat}{W3 W W':World}{l:List Ov}{row:Option Nat}(xH:ob<W3.heap.size)(h:RI ob W3 l W)(hg:W.grownBy W' row)(hr:∀r,row=some r→W3.heap.size≤r∧∃o:Obj,W.heap[r]? =some o∧o.isCells=false):RI ob W3 l W':=by
 obtain⟨v,h1,h2,h3⟩:=h
 refine⟨v,(hg.block ob (ay h1) fun e=>by have:=(hr _ e.symm).1;omega).trans h1,h2.kept hg ?_,h3.trans (Out.aM (F:=fun g=>row=some g) hg fun g h=>h) fun g h=>.inr (hr g h).1⟩
 cases hv:v.ownBlock with
 |none=>exact .inl rfl
 |some g=>
  refine .inr fun e=>?_
  obtain⟨cs,fr,h4⟩:=h2.wI hv
  obtain⟨_,o,h5,h6⟩:=hr g e.symm
  rw[h4]at h5
  cases h5
  simp[Obj.isCells]at h6
theorem RI.app {ob:Nat}{W3 W W1 W2:World}{l':List Ov}{v v':Value}(xH:ob<W3.heap.size)(hW3:W3.heap.size≤W.heap.size)(h1:W.heap[ob]? =some (.cells #[v] 33 (0,0)))(h3:Out (fun g=>g=ob) W3 W)(b1:Below W.heap.size W W1)(ho:aT 71 W3.heap.size W2 v' l')(b2:Below W3.heap.size W1 W2):
  RI ob W3 l' (W2.setCell ⟨ob,0,none⟩ v')∧W2.heap[ob]? =some (.cells #[v] 33 (0,0)):=by
 have h4:=(b2.block ob xH).trans ((b1.block ob (by omega)).trans h1)
 refine⟨⟨v',by rw[aF h4];simp,?_,?_⟩,h4⟩
 ·refine ho.kept (ax W2 ⟨ob,0,none⟩ v') ?_
  cases hv:v'.ownBlock with
  |none=>exact .inl rfl
  |some g=>
   refine .inr fun e=>?_
   have:=(ho.block g hv).1
   simp at e
   omega
 ·have q1:Out (fun g=>g=ob) W3 W1:=h3.trans (Out.of_below (F:=fun g=>g=ob) b1) fun g hg=>.inl hg
  have q2:Out (fun g=>g=ob) W3 W2:=⟨b2.os.trans q1.os,b2.tape.trans q1.tape,b2.output.trans q1.output,Nat.le_trans q1.size b2.size,fun g hg hn=>(b2.block g hg).trans (q1.block g hg hn)⟩
  exact q2.trans (Out.aM (F:=fun g=>g=ob) (ax W2 ⟨ob,0,none⟩ v') fun g hg=>by simpa using hg.symm) fun g hg=>.inl hg
theorem aor {W W':World}{row:Option Nat}(h:W.grownBy W' row)(hr:∀g,row=some g→∃cs t fr,W.heap[g]? =some (.cells cs t fr)):KeepsOthers W W':=⟨h.size,fun k o hk ho=>(h.block k (ay hk) fun e=>by
 obtain⟨cs,t,fr,h1⟩:=hr k e.symm
 rw[hk]at h1
 cases h1
 simp[Obj.isCells]at ho).trans hk⟩
theorem as2 {w W:World}{D:Nat}{v:Value}{l:List Ov}(h:aT 71 w.heap.size W v l∧Below w.heap.size w W)(hD:w.heap.size≤D)(hK:W.heap[D]? =some (.deferred (some []))):aT 71 w.heap.size (W.putObj D (.deferred none)) v l∧Bq w (W.putObj D (.deferred none)):=by
 refine⟨h.1.kept (grownBy_putObj' W D (.deferred none)) ?_,h.2.grown (grownBy_putObj' W D (.deferred none)) h.2.size fun k hk=>by cases hk;exact hD⟩
 cases hv:v.ownBlock with
 |none=>exact .inl rfl
 |some g=>
  refine .inr fun e=>?_
  cases e
  obtain⟨cs,fr,h4⟩:=h.1.wI hv
  rw[hK]at h4
  cases h4
end Go.Proofs.YtlmkaljjocflmaaGreatDoor
namespace Go.Proofs.YtlmkaljjocflmaaGreatDoor
open Go.RowKit Go.Maps Go.Shelf
open Bm (Ov)
attribute [local go_sem] Oper.semAt_some
theorem ajl (B base:Nat)(w:World)(t:List Ov)(sq:sI B base w t)(hL:t.length≤1000000):
  Calls prog 316 #[.slice none 0 0,.func (.func 335) #[] #[.pointer (some ⟨B,0,none⟩)]] w fun E w'=>∃v,E=.returned v∧aT 71 w.heap.size w' v t∧Below w.heap.size w w':=by
 obtain⟨W3,hW3,bO,b3,B3⟩:=au w #[.slice none 0 0] 33
 have sq3:=sq.below b3
 have aAV:=hide (ap8 5 (by omega) B base t W3 sq3 hL)
 have SQL:Hid (∀g,uF B W3 g→g<w.heap.size):=hide fun g hg=>by
  obtain⟨h1,v,h2,h3⟩:=sq
  rcases hg with rfl|⟨u,hu,hg⟩
  ·exact ay h2
  ·have c0:W3.cell? ⟨B,0,none⟩=some v:=(b3.cell (p:=⟨B,0,none⟩) (ay h2)).trans (ai h2 0 rfl)
   rw[c0]at hu
   cases hu
   exact(h3.block g hg).2
 have HO3:=hide B3
 have Hb3:=hide b3
 have xH:w.heap.size<W3.heap.size:=by omega
 have hszz:=hide bO
 have HKN:Hid (∀W W',Out (fun g=>g=w.heap.size) W3 W→Out (fun g=>g=w.heap.size) W3 W'→Kn (uF B W3) W W'):=hide fun W W' h1 h2 g hg=>by
  have q2:=SQL.out g hg
  have hne:¬g=w.heap.size:=by omega
  rw[h1.block g (by omega) hne,h2.block g (by omega) hne]
 clear sq sq3 B3 b3 bO
 refine(callsIn_wide (n:=6)).1 ?_
 refine callsIn_of_wp_marks func316 rfl trivial ?_ rfl
 simp only[ntmps316,List.size_toArray,List.length_cons,List.length_nil,Nat.reduceAdd,Nat.reduceSub,Array.replicate_succ,Array.replicate_zero,List.push_toArray,List.append_toArray,List.nil_append,List.cons_append]
 gi_wp2_with fail
 apply wpIn_rangeFunc_ownH rfl (by omega) (gf:=335) (lb:=#[.pointer (some ⟨B,0,none⟩)]) rfl trivial (enters_of func335 (by kernel_rfl) rfl) (encs:=fun x:Nx t.length=>#[ovv (pt t x)]) (Kp:=Kn (uF B W3)) (S:=fun xs=>xs=upn t.length t.length) (Sp:=fun pre=>∃k,k≤t.length∧pre=upn t.length k) (N:=t.length) (w0:=W3) aAV.out Kn.trans (aw3 (fun g hg=>by have:=SQL.out g hg;omega)) (Below.refl _ _) (fun _=>rfl)
  (fun pre W=>RI w.heap.size W3 (pts t pre) W)
  (fun c pre W=>False)
  (fun s X Y row hs hg hr=>hs.grown xH hg hr)
  (fun c s X Y row hs hg hr=>hs)
  ⟨.slice none 0 0,HO3.out,aT.nil _ _ _,Out.refl _ _⟩
  (fun x a' W=>∃q,a'={tmps:=#[.slice none 0 0,.func (.func 335) #[] #[.pointer (some ⟨B,0,none⟩)],.pointer (some ⟨w.heap.size,0,none⟩),undef,.slice none 0 0,.pointer (some ⟨q,0,none⟩),.func (.func 335) #[] #[.pointer (some ⟨B,0,none⟩)],ovv (pt t x),undef,undef,undef,undef,undef],defers:=[]}∧W.heap[q]? =some (.cells #[.bool (pt t x).p,.string (pt t x).k,.string (pt t x).v] 71 (0,0)))
  (fun x a' s X Y row hs hg hr=>by
   obtain⟨q,h1,h2⟩:=hs
   refine⟨q,h1,(hg.block q (ay h2) fun e=>?_).trans h2⟩
   obtain⟨_,o,h3,h4⟩:=hr q e.symm
   rw[h2]at h3
   cases h3
   simp[Obj.isCells]at h4)
 case hassign=>
  rintro l0 pre x W K hI hK
  obtain⟨o,ho⟩:∃o,pt t x=o:=⟨_,rfl⟩
  rw[ho]at hK⊢
  unfold ovv at hK⊢
  obtain⟨V,hV,iy,bV,BV⟩:=au W #[.bool o.p,.string o.k,.string o.v] 71
  have hI2:RI w.heap.size W3 (pts t pre) V:=by rw[←hV];exact hI.grown xH (World.grownBy_alloc _ _ none) (fun r e=>by cases e)
  have hO1:Out (fun g=>g=w.heap.size) W3 W:=by obtain⟨_,_,_,h⟩:=hI;exact h
  have hO2:Out (fun g=>g=w.heap.size) W3 V:=by obtain⟨_,_,_,h⟩:=hI2;exact h
  have HKK:=hide (hK _ V ((KeepsOthers.from ⟨bV.size,fun k o hk _=>(bV.block k (ay hk)).trans hk⟩ _)) (HKN.out _ _ hO1 hO2) hI2 ⟨W.heap.size,rfl,BV⟩)
  clear hK hI hI2 hO1 hO2 bV BV
  gi_wp2
  exact HKK.out
 case hbody=>
  rintro l0 pre x a' W _ _ ⟨v,h1,h2,h3⟩ ⟨q,rfl,hq⟩ akJ
  have hlen:(pts t pre).length=pre.length:=aue t pre
  obtain⟨ao,cap,hv,_,_⟩:=h2.is.shape
  rw[hlen]at hv
  have azF:=h3.size
  have c1:=ai h1 0 rfl
  have q0:=ai hq 0 rfl
  have q1:=ai hq 1 rfl
  have q2:=ai hq 2 rfl
  have hsn:=agK t pre x
  obtain⟨o,ho⟩:∃o,pt t x=o:=⟨_,rfl⟩
  rw[ho]at q0 q1 q2 hsn⊢
  obtain⟨V,hV,iy,bV,jm⟩:=qO 71 W #[.bool o.p,.string o.k,.string o.v] 1 [o] rfl rfl (by simp[maxLen])
  have aW:=h2.below bV
  have cV:=(jm.is)
  have hcells:∀j u,(ocells [o])[j]? =some u→V.cell? ((⟨W.heap.size,0,none⟩:Addr).add j)=some u:=by
   rcases cV with⟨h,_⟩|⟨ad,cp,h,_,_,hc⟩
   ·cases h
   ·cases h
    exact hc
  have apn:((pts t pre).length+[o].length)*40≤140737488355328:=by rw[hlen];simp;omega
  have hzV:W3.heap.size≤V.heap.size:=by omega
  have aAH:Hid (∀v' w',aT 71 W3.heap.size w' v' (pts t pre++[o])→Below W3.heap.size V w'→V.grownBy w' v.ownBlock→(w'.cell? ⟨w.heap.size,0,none⟩=some v∧w'.frozen? ⟨w.heap.size,0,none⟩=false)∧KeepsFrom W3.heap.size W (w'.setCell ⟨w.heap.size,0,none⟩ v')∧Kn (uF B W3) W (w'.setCell ⟨w.heap.size,0,none⟩ v')∧RI w.heap.size W3 (pts t (pre++[x])) (w'.setCell ⟨w.heap.size,0,none⟩ v')):=hide fun v' w' ho' hb' hg'=>by
   obtain⟨r1,r2⟩:=RI.app xH azF h1 h3 bV ho' hb'
   have hO2:Out (fun g=>g=w.heap.size) W3 (w'.setCell ⟨w.heap.size,0,none⟩ v'):=by obtain⟨_,_,_,h⟩:=r1;exact h
   refine⟨⟨ai r2 0 rfl,aA r2 0⟩,?_,HKN.out _ _ h3 hO2,by rw[hsn];exact r1⟩
   have k1:KeepsOthers W V:=⟨bV.size,fun k o hk _=>(bV.block k (ay hk)).trans hk⟩
   have k2:KeepsOthers V w':=aor hg' fun g hg=>by obtain⟨cs,fr,h⟩:=aW.wI hg;exact⟨cs,_,fr,h⟩
   exact((k1.trans k2).trans (KeepsOthers.setCell _ _ _)).from _
  have aBf:=Tryz.wY
  have HV:=hide hv
  rw[hv]at c1 aW
  clear h2 h3 h1 hq hsn hlen bV jm cV hv
  gi_wp2_with (gi_at_builtin;refine wP rfl (.tmp 8) (.tmp 10) 33 rfl 71 W3.heap.size underlying33 aBf _ (pts t pre) rfl aW ⟨W.heap.size,0,none⟩ [o] 1 rfl hcells apn hzV ?_)
  intro v' w' ho' hb' hg'
  obtain⟨mM,cap2,av1,_,_⟩:=ho'.is.shape
  obtain⟨L2,hL2⟩:∃L2,(pts t pre++[o]).length=L2:=⟨_,rfl⟩
  rw[hL2]at av1
  clear hL2
  subst av1
  have HH:=hide (aAH.out _ w' ho' hb' (by rw[HV.out];exact hg'))
  have cz:=HH.out.1.1
  have fz:=HH.out.1.2
  rw[HV.out]at cz
  clear ho' hb' hg' c1 q0 q1 q2 aW hcells
  gi_wp2
  exact HH.out.2
 case hdone=>
  rintro D xs W hD rfl ⟨v,h1,h2,h3⟩ hK
  rw[atl]at h2
  have c1:=ai h1 0 rfl
  have hE:Hid (aT 71 w.heap.size W v t∧Below w.heap.size w W):=hide ⟨h2.bn (by omega),Hb3.out.trans (h3.below (fun g hg=>by omega) (by omega))⟩
  have wM:=hide hK
  have hD':w.heap.size≤D:=by omega
  clear h1 h2 h3 hK
  gi_wp2
  refine⟨by simp,.inl ⟨_,_,rfl,run_takeDeferred wM.out,?_⟩⟩
  obtain⟨f1,f2⟩:=as2 hE.out hD' wM.out
  refine⟨v,?_,v,rfl,f1,f2⟩
  simp[results,results316,go_sem]
 case hstop=>
  rintro D c pre W hD _ hf hK
  exact hf.elim
theorem ag9 (B base:Nat)(w:World)(t:List Ov)(sq:sI B base w t)(hL:t.length≤1000000):
  Calls prog 291 #[.func (.func 335) #[] #[.pointer (some ⟨B,0,none⟩)]] w fun E w'=>∃v,E=.returned v∧aT 71 w.heap.size w' v t∧Below w.heap.size w w':=by
 have HA:=hide (ajl B base w t sq hL)
 clear sq
 go_enter func291,ntmps291
 go_wp2_with fail
 refine HA.out.mono ?_
 rintro E w1 ⟨v,rfl,o1,b1⟩
 have O1:=hide o1
 obtain⟨a,k,hv,_,_⟩:=o1.is.shape
 subst hv
 clear o1
 go_wp2
 go_ret
 exact⟨_,rfl,O1.out,b1⟩
end Go.Proofs.YtlmkaljjocflmaaGreatDoor

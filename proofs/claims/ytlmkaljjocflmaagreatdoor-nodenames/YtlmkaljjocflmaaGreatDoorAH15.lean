/- Texts of one layer, one behind the other. -/
import Derived.Test.YtlmkaljjocflmaaGreatDoorAH14
import Derived.Test.YtlmkaljjocflmaaGreatDoorAH12
import Derived.Test.YtlmkaljjocflmaaGreatDoorAH3
import Derived.Test.YtlmkaljjocflmaaGreatDoorAH13
import Derived.Test.YtlmkaljjocflmaaGreatDoorAH5
import Derived.Deep.RegionHeld3
import Derived.Test.YtlmkaljjocflmaaGreatDoorAH11
import Derived.Test.YtlmkaljjocflmaaGreatDoorAH1
import Derived.Test.YtlmkaljjocflmaaGreatDoorAH6
set_option maxRecDepth 100000
set_option maxHeartbeats 8000000
namespace Go.Proofs.YtlmkaljjocflmaaGreatDoor
open Go.RowKit Go.Shelf
open Bm (Ov)
set_option linter.unusedVariables false
attribute [local go_sem] Oper.semAt_some
theorem Tryz.auW:Tryz.prog.follows .mixedOrders=true:=by kernel_rfl
theorem akT {t:List Ov}{k:ByteArray}{o:Ov}(h:Tm.get t k=some o):gv t k=o.v∧Tm.met t k=true∧gp t k=o.p:=by
 unfold gv gp
 rw[Tm.wN,h]
 exact⟨rfl,rfl,rfl⟩
theorem ajq {t:List Ov}{k:ByteArray}(h:Tm.get t k=none):gv t k=⟨#[]⟩∧Tm.met t k=false∧gp t k=false:=by
 unfold gv gp
 rw[Tm.wN,h]
 exact⟨rfl,rfl,rfl⟩
theorem aa0 {rs:List Cw}{l:List Cm.Cv}(he:aH rs=l){i:Nat}(hi:i<rs.length):l[i]? =some (iO rs ⟨i,hi⟩).c:=by
 rw[←he,aH,List.getElem?_map,List.getElem?_eq_getElem hi]
 rfl
theorem yD {rs:List Cw}{l:List Cm.Cv}(he:aH rs=l)(hg:Rl.Good 0 l)(key:ByteArray):∀k,k≤rs.length→(∀y∈dn rs.length k,Tm.get (iO rs y).l key=none)→Tm.get (Rl.tab l) key=Tm.get (Rl.tab (l.take (rs.length-k))) key
 |0,_,_=>by
  have hl:rs.length=l.length:=by rw[←he,aH,List.length_map]
  rw[Nat.sub_zero,hl,List.take_length]
 |k+1,hk,h=>by
  rw[rR _ k (by omega)]at h
  have h1:=yD he hg key k (by omega) fun y hy=>h y (List.mem_append_left _ hy)
  have hi:rs.length-1-k<rs.length:=by omega
  have hc:=aa0 he hi
  have hu:=(Rl.l8 hg _ (List.mem_of_getElem? hc)).1
  have h2:=Rl.aea key hu hc
  rw[show rs.length-1-k+1=rs.length-k by omega]at h2
  have h3:Tm.get (iO rs ⟨rs.length-1-k,hi⟩).c.l key=none:=h ⟨rs.length-1-k,hi⟩ (by simp)
  rw[h1,h2,h3]
  show Tm.get (Rl.tab (l.take (rs.length-1-k))) key=_
  rw[show rs.length-1-k=rs.length-(k+1)by omega]
theorem anm {rs:List Cw}{l:List Cm.Cv}(he:aH rs=l)(hg:Rl.Good 0 l)(key:ByteArray){k:Nat}{pre:List (Nx rs.length)}{x:Nx rs.length}{o:Ov}(hk:k≤rs.length)(hp:dn rs.length k=pre++[x])(h:∀y∈pre,Tm.get (iO rs y).l key=none)(ho:Tm.get (iO rs x).l key=some o):Tm.get (Rl.tab l) key=some o:=by
 rcases k with _|k
 ·simp[dn]at hp
 ·rw[rR _ k (by omega)]at hp
  obtain⟨e1,e2⟩:=List.append_inj' hp rfl
  subst e1
  have hi:rs.length-1-k<rs.length:=by omega
  have e3:x=⟨rs.length-1-k,hi⟩:=by simpa using e2.symm
  rw[e3]at ho
  have hc:=aa0 he hi
  have hu:=(Rl.l8 hg _ (List.mem_of_getElem? hc)).1
  have h2:=Rl.aea key hu hc
  rw[show rs.length-1-k+1=rs.length-k by omega]at h2
  have h3:Tm.get (iO rs ⟨rs.length-1-k,hi⟩).c.l key=some o:=ho
  rw[yD he hg key k (by omega) h,h2,h3]
theorem aqU (key:ByteArray):Tm.get (Rl.tab []) key=none:=rfl
theorem akY {W:World}{R1 R2 R3:Nat}{t1 t2:TypeId}{x1 x2 x3:Value}(h1:W.heap[R1]? =some (.cells #[x1] t1 (0,0)))(h2:W.heap[R2]? =some (.cells #[x2] t2 (0,0)))(h3:W.heap[R3]? =some (.cells #[x3] t2 (0,0)))(n12:R1≠R2)(n13:R1≠R3)(n23:R2≠R3)(a b c:Value):
  ∃V,((W.setCell ⟨R1,0,none⟩ a).setCell ⟨R2,0,none⟩ b).setCell ⟨R3,0,none⟩ c=V∧V.cell? ⟨R1,0,none⟩=some a∧V.cell? ⟨R2,0,none⟩=some b∧V.cell? ⟨R3,0,none⟩=some c∧V.heap.size=W.heap.size∧(∀g,g≠R1→g≠R2→g≠R3→V.heap[g]? =W.heap[g]?)∧Out (fun g=>g=R1∨g=R2∨g=R3) W V∧
   (V.heap[R1]? =some (.cells #[a] t1 (0,0))∧V.heap[R2]? =some (.cells #[b] t2 (0,0))∧V.heap[R3]? =some (.cells #[c] t2 (0,0))):=by
 have q1:=aG h1 0 a
 have q2:(W.setCell ⟨R1,0,none⟩ a).heap[R2]? =_:=(Below.heap_setCell W ⟨R1,0,none⟩ a R2 n12.symm).trans h2
 have q3:(W.setCell ⟨R1,0,none⟩ a).heap[R3]? =_:=(Below.heap_setCell W ⟨R1,0,none⟩ a R3 n13.symm).trans h3
 have r2:=aG q2 0 b
 have r1:=(Below.heap_setCell (W.setCell ⟨R1,0,none⟩ a) ⟨R2,0,none⟩ b R1 n12).trans q1
 have r3:=(Below.heap_setCell (W.setCell ⟨R1,0,none⟩ a) ⟨R2,0,none⟩ b R3 n23.symm).trans q3
 have s3:=aG r3 0 c
 have s1:=(Below.heap_setCell ((W.setCell ⟨R1,0,none⟩ a).setCell ⟨R2,0,none⟩ b) ⟨R3,0,none⟩ c R1 n13).trans r1
 have s2:=(Below.heap_setCell ((W.setCell ⟨R1,0,none⟩ a).setCell ⟨R2,0,none⟩ b) ⟨R3,0,none⟩ c R2 n23).trans r2
 have o1:Out (fun g=>g=R1∨g=R2∨g=R3) W (W.setCell ⟨R1,0,none⟩ a):=Out.aP (ax W ⟨R1,0,none⟩ a) fun g hg=>.inl (by simp at hg;exact hg.symm)
 have o2:Out (fun g=>g=R1∨g=R2∨g=R3) W ((W.setCell ⟨R1,0,none⟩ a).setCell ⟨R2,0,none⟩ b):=o1.trans (Out.aP (F:=fun g=>g=R1∨g=R2∨g=R3) (ax _ ⟨R2,0,none⟩ b) fun g hg=>.inr (.inl (by simp at hg;exact hg.symm))) fun g hg=>.inl hg
 have o3:Out (fun g=>g=R1∨g=R2∨g=R3) W (((W.setCell ⟨R1,0,none⟩ a).setCell ⟨R2,0,none⟩ b).setCell ⟨R3,0,none⟩ c):=o2.trans (Out.aP (F:=fun g=>g=R1∨g=R2∨g=R3) (ax _ ⟨R3,0,none⟩ c) fun g hg=>.inr (.inr (by simp at hg;exact hg.symm))) fun g hg=>.inl hg
 refine⟨_,rfl,ai s1 0 rfl,ai s2 0 rfl,ai s3 0 rfl,by simp,fun g n1 n2 n3=>?_,o3,by exact s1,by exact s2,by exact s3⟩
 exact(Below.heap_setCell _ _ _ g n3).trans ((Below.heap_setCell _ _ _ g n2).trans (Below.heap_setCell _ _ _ g n1))
theorem ati (p q:Nat)(w:World)(l:List Cm.Cv)(bk:Bool)(v:Value)(rs:List Cw)(key:ByteArray)(hv:RkV p q w l bk v rs):
  Calls Tryz.prog 287 #[.pointer (some ⟨p,0,none⟩),.string key] w fun E w'=>E=.returned (.tuple #[.string (gv (Rl.tab l) key),.bool (Tm.met (Rl.tab l) key),.bool (gp (Rl.tab l) key)])∧Below w.heap.size w w':=by
 obtain⟨w1,hw1,aT,ak,B1⟩:=au w #[.string key] 9
 obtain⟨w2,hw2,dm,az,B2⟩:=au w1 #[.string ⟨#[]⟩] 9
 obtain⟨w3,hw3,bJ,aC,B3⟩:=au w2 #[.bool false] 4
 obtain⟨w4,hw4,iE,aL,B4⟩:=au w3 #[.bool false] 4
 obtain⟨W0,gM,lU,aQ,B5⟩:=au w4 #[v] 92
 rw[aT]at B2 az
 rw[show w2.heap.size=w.heap.size+2 by omega]at B3 aC
 rw[show w3.heap.size=w.heap.size+3 by omega]at B4 aL
 rw[show w4.heap.size=w.heap.size+4 by omega]at B5 aQ
 have di:Below w.heap.size w w4:=((ak.trans (az.mono (by omega))).trans (aC.mono (by omega))).trans (aL.mono (by omega))
 have cZ:Below w.heap.size w W0:=di.trans (aQ.mono (by omega))
 have hv4:RkV p q w4 l bk v rs:=⟨(di.block p (aA hv.blk)).trans hv.blk,hv.log.below di⟩
 have HM:=hide (vP p q w4 _ _ hv4.blk)
 have c2:=ai hv4.blk 2 rfl
 simp only[List.getElem_toArray,List.getElem_cons_zero,List.getElem_cons_succ]at c2
 have HCH:Hid (Calls Tryz.prog 313 #[v] w4 fun e w'=>e=.returned (.func (.func 333) #[] #[.pointer (some ⟨w.heap.size+4,0,none⟩)])∧W0=w'):=hide (by
  obtain⟨a1,k1,h1,_⟩:=hv4.log.row.row.shape
  refine(amZ v ⟨a1,_,k1,h1⟩ w4).mono ?_
  rintro e w' ⟨rfl,rfl⟩
  rw[show w4.heap.size=w.heap.size+4 by omega]
  exact⟨rfl,by rw[gM]⟩)
 obtain⟨la,ln,lk,hlv⟩:∃a n k,v=.slice a n k:=by
  obtain⟨a1,k1,h1,_⟩:=hv.log.row.row.shape
  exact⟨a1,_,k1,h1⟩
 have hmx:=Tryz.auW
 have hsl:rs.length≤1048576:=hv.log.ajN
 have D0:W0.heap[w.heap.size]? =some (.cells #[.string key] 9 (0,0)):=(aQ.block _ (by omega)).trans ((aL.block _ (by omega)).trans ((aC.block _ (by omega)).trans ((az.block _ (by omega)).trans B1)))
 have D1:W0.heap[w.heap.size+1]? =some (.cells #[.string ⟨#[]⟩] 9 (0,0)):=(aQ.block _ (by omega)).trans ((aL.block _ (by omega)).trans ((aC.block _ (by omega)).trans B2))
 have D2:W0.heap[w.heap.size+2]? =some (.cells #[.bool false] 4 (0,0)):=(aQ.block _ (by omega)).trans ((aL.block _ (by omega)).trans B3)
 have D3:W0.heap[w.heap.size+3]? =some (.cells #[.bool false] 4 (0,0)):=(aQ.block _ (by omega)).trans B4
 have hrow:dU W0 v rs:=hv.log.row.row.below cZ
 have hvb:∀g,v.ownBlock=some g→g<w.heap.size:=fun g hg=>(World.ownsRow.lt hv.log.row g hg).2
 have SEQ:=hide (amz 5 (by omega) (w.heap.size+4) rs v W0 (ai B5 0 rfl) (fun g hg=>by
  rcases hg with e|e
  ·omega
  ·have:=hvb g e;omega) hrow hsl)
 have HQ:Hid (∀x:Nx rs.length,∀W,Below W0.heap.size W0 W→dz W (iO rs x).v (iO rs x).l):=hide fun x W hb=>((hv.log.kr _ (List.getElem_mem x.2)).is.below cZ).below hb
 have HUP:Hid (∀x:Nx rs.length,Tm.Up (iO rs x).l∧(iO rs x).l.length≤1024):=hide fun x=>by
  have hc:=Rl.l8 hv.log.good _ (List.mem_of_getElem? (aa0 hv.log.is x.2))
  exact⟨hc.1,hc.2.2⟩
 have HBK:Hid (∀x:Nx rs.length,∀b,(iO rs x).v.ownBlock=some b→b<w.heap.size):=hide fun x b hb=>((hv.log.kr _ (List.getElem_mem x.2)).block b hb).2
 have HIS:=hide hv.log.is
 have HGD:=hide hv.log.good
 have HVB:=hide hvb
 replace dm:w2.heap.size=w.heap.size+2:=by omega
 replace bJ:w3.heap.size=w.heap.size+3:=by omega
 replace iE:w4.heap.size=w.heap.size+4:=by omega
 replace lU:W0.heap.size=w.heap.size+5:=by omega
 have DD:=hide (And.intro D0 (And.intro D1 (And.intro D2 D3)))
 have ahG:=hide cZ
 subst hlv
 clear gM hv hv4 B1 B2 B3 B4 B5 ak az aC aL aQ di D0 D1 D2 D3 hrow hvb cZ
 refine(callsIn_wide (n:=6)).1 ?_
 refine callsIn_of_wp_marks Tryz.func287 rfl trivial ?_ rfl
 simp only[Tryz.ntmps287,List.size_toArray,List.length_cons,List.length_nil,Nat.reduceAdd,Nat.reduceSub,Array.replicate_succ,Array.replicate_zero,List.push_toArray,List.append_toArray,List.nil_append,List.cons_append]
 gi_wp2_with fail
 refine⟨trivial,(callsIn_wide.2 HM.out).mono ?_⟩
 rintro E w' ⟨rfl,rfl⟩
 gi_wp2_with fail
 refine⟨trivial,(callsIn_wide.2 HCH.out).mono ?_⟩
 rintro E w' ⟨rfl,rfl⟩
 clear hw1 hw2 hw3 hw4 c2 HM HCH
 gi_wp2_with fail
 apply wpIn_rangeFunc_ownH rfl (by omega) (gf:=333) (lb:=#[.pointer (some ⟨w.heap.size+4,0,none⟩)]) rfl trivial (enters_of Tryz.func333 (by kernel_rfl) rfl) (encs:=fun x:Nx rs.length=>#[.int .i64 x.1,cvv (iO rs x)]) (Kp:=Kn (xD (w.heap.size+4) (.slice la ln lk))) SEQ.out Kn.trans (awi (S:=xD (w.heap.size+4) (.slice la ln lk)) (fun g hg=>by
   rcases hg with e|e
   ·omega
   ·have:=HVB.out g e;omega)) (Below.refl _ _) (fun _=>rfl)
  (fun pre W=>Below W0.heap.size W0 W∧∀y∈pre,Tm.get (iO rs y).l key=none)
  (fun c pre W=>c=.ret∧(∃(pre':List (Nx rs.length)) (x:Nx rs.length) (o:Ov),pre=pre'++[x]∧(∀y∈pre',Tm.get (iO rs y).l key=none)∧Tm.get (iO rs x).l key=some o∧(W.heap[w.heap.size+1]? =some (.cells #[.string o.v] 9 (0,0))∧W.heap[w.heap.size+2]? =some (.cells #[.bool true] 4 (0,0))∧W.heap[w.heap.size+3]? =some (.cells #[.bool o.p] 4 (0,0))))∧Below w.heap.size w W)
  (fun s X Y row hs hg hr=>⟨hs.1.grown hg hs.1.size fun k e=>(hr k e).1,hs.2⟩)
  (fun c s X Y row hs hg hr=>by
   obtain⟨h1,⟨pre',x,o,h2,h3,h4,h5,h6,h7⟩,h8⟩:=hs
   have st:∀g,g<w.heap.size+5→g<X.heap.size→Y.heap[g]? =X.heap[g]? :=fun g hg1 hg2=>hg.block g hg2 fun e=>by have:=(hr g e.symm).1;omega
   exact⟨h1,⟨pre',x,o,h2,h3,h4,(st _ (by omega) (aA h5)).trans h5,(st _ (by omega) (aA h6)).trans h6,(st _ (by omega) (aA h7)).trans h7⟩,h8.grown hg h8.size fun k e=>by have:=(hr k e).1;omega⟩)
  ⟨Below.refl _ _,fun y hy=>by simp at hy⟩
  (fun x a' W=>∃q,a'={tmps:=#[.pointer (some ⟨p,0,none⟩),.string key,undef,.pointer (some ⟨w.heap.size,0,none⟩),.pointer (some ⟨w.heap.size+1,0,none⟩),.pointer (some ⟨w.heap.size+2,0,none⟩),.pointer (some ⟨w.heap.size+3,0,none⟩),undef,.pointer (some ⟨q,0,none⟩),undef,undef,.pointer (some ⟨p,0,none⟩),.bool true,.bool false,.pointer (some ⟨p,0,none⟩),.pointer (some ⟨p,0,none⟩),.pointer (some ⟨p,2,none⟩),.slice la ln lk,.func (.func 333) #[] #[.pointer (some ⟨w.heap.size+4,0,none⟩)],.int .i64 x.1,cvv (iO rs x),undef,undef,undef,undef,undef,undef,undef,undef,undef,undef,undef,undef,undef,undef,undef,undef,undef,undef,undef,undef],defers:=[]}∧W.heap[q]? =some (.cells #[.int .i64 (iO rs x).e,.int .i64 (iO rs x).n,(iO rs x).v] 273 (0,0))∧w.heap.size+5≤q)
  (fun x a' s X Y row hs hg hr=>by
   obtain⟨q,h1,h2,h3⟩:=hs
   refine⟨q,h1,(hg.block q (aA h2) fun e=>?_).trans h2,h3⟩
   obtain⟨_,o,h3,h4⟩:=hr q e.symm
   rw[h2]at h3
   cases h3
   simp[Obj.isCells]at h4)
 case hassign=>
  rintro l0 pre x W K ⟨hI,hN⟩ hK
  obtain⟨c,hc⟩:∃c,iO rs x=c:=⟨_,rfl⟩
  rw[hc]at hK⊢
  unfold cvv at hK⊢
  have hcv:∃a n k,c.v=.slice a n k:=by
   have:=HQ.out x W hI
   rw[hc]at this
   obtain⟨a1,k1,h1,_⟩:=this.shape
   exact⟨a1,_,k1,h1⟩
  obtain⟨ca,cn,ck,hcv⟩:=hcv
  have hz:=hI.size
  obtain⟨V,hV,hV2,jE,bV,BV,x0,x1,x2⟩:=gG W 273 (.int .i64 0) (.int .i64 0) (.slice none 0 0) (.int .i64 c.e) (.int .i64 c.n) c.v
  have HKK:=hide (hK _ V ((KeepsOthers.from ⟨bV.size,fun k o hk _=>(bV.block k (aA hk)).trans hk⟩ _)) (fun g hg=>bV.block g (by
   rcases hg with e|e
   ·omega
   ·have:=HVB.out g e;omega)) ⟨hI.trans (bV.mono hz),hN⟩ ⟨W.heap.size,rfl,BV,by omega⟩)
  rw[hcv]at hV hV2 x2 HKK⊢
  clear hK hI bV BV
  gi_wp2
  exact HKK.out
 case hbody=>
  rintro l0 pre x a' W hl0 _ ⟨hI,hN⟩ ⟨q,rfl,hq,hq5⟩ aoQ
  have hz:=hI.size
  have nV:=HQ.out x W hI
  obtain⟨hup,hlen⟩:=HUP.out x
  obtain⟨c,hc⟩:∃c,iO rs x=c:=⟨_,rfl⟩
  rw[hc]at hq nV hup hlen⊢
  have hlt:∀g,g<w.heap.size+5→W.heap[g]? =W0.heap[g]? :=fun g hg=>hI.block g (by omega)
  have e0:=(hlt _ (by omega)).trans DD.out.1
  have e1:=(hlt _ (by omega)).trans DD.out.2.1
  have e2:=(hlt _ (by omega)).trans DD.out.2.2.1
  have e3:=(hlt _ (by omega)).trans DD.out.2.2.2
  have x0:W.cell? ⟨w.heap.size,0,none⟩=some (.string key):=ai e0 0 rfl
  have q2:W.cell? ⟨q,2,none⟩=some c.v:=ai hq 2 rfl
  have qp:=hide (afU c.v c.l key W nV hup hlen)
  have HIO:=hide nV
  have HC:=hide hc
  have HEE:=hide (And.intro e1 (And.intro e2 (And.intro e3 hq)))
  have HI:=hide hI
  have HN:=hide hN
  have hq':=aA hq
  clear nV hup e0 e1 e2 e3 hI hN hlt hq hc
  gi_wp2_with fail
  refine⟨trivial,(CallsIn.inRound l0 (callsIn_wide.2 qp.out)).mono ?_⟩
  rintro E w5 ⟨i,f,rfl,aQ,FR⟩
  have sz5':=aQ.size
  have qE:=hide (HI.out.trans (aQ.mono hz))
  have KO:=hide (show KeepsOthers W w5 from⟨aQ.size,fun k o hk _=>(aQ.block k (aA hk)).trans hk⟩)
  cases f with
  |false=>
   have NN:Hid (∀y∈pre++[x],Tm.get (iO rs y).l key=none):=hide fun y hy=>by
    rcases List.mem_append.1 hy with hy|hy
    ·exact HN.out y hy
    ·rw[List.mem_singleton.1 hy,HC.out]
     rcases FR.out with⟨h,_⟩|⟨_,h⟩
     ·cases h
     ·exact h
   have HKN:=hide (show Kn (xD (w.heap.size+4) (.slice la ln lk)) W w5 from fun g hg=>aQ.block g (by
    rcases hg with e|e
    ·omega
    ·have:=HVB.out g e;omega))
   clear aQ
   gi_wp2
   exact⟨KO.out.from _,HKN.out,qE.out,NN.out⟩
  |true=>
   obtain⟨o,ho,hget⟩:∃o,c.l[i]? =some o∧Tm.get c.l key=some o:=by
    rcases FR.out with⟨_,h⟩|⟨h,_⟩
    ·exact h
    ·cases h
   have hil:=(List.getElem?_eq_some_iff.1 ho).1
   obtain⟨b1,o1,cq,fH,_,_,hB,hcell⟩:=HIO.out.full (by omega)
   obtain⟨d0,_,d2⟩:=hcell i o ho
   have g0:=(aQ.cell (p:=⟨b1,o1+i*3,none⟩) hB).trans d0
   have g2:=(aQ.cell (p:=⟨b1,o1+i*3+2,none⟩) hB).trans d2
   have e1:=(aQ.block _ (by omega)).trans HEE.out.1
   have e2:=(aQ.block _ (by omega)).trans HEE.out.2.1
   have e3:=(aQ.block _ (by omega)).trans HEE.out.2.2.1
   have eq:=(aQ.block _ hq').trans HEE.out.2.2.2
   have q2':w5.cell? ⟨q,2,none⟩=some c.v:=ai eq 2 rfl
   have r1:=ai e1 0 rfl;have r2:=ai e2 0 rfl;have r3:=ai e3 0 rfl
   have f1:=aB e1 0;have f2:=aB e2 0;have f3:=aB e3 0
   simp only[List.getElem_toArray,List.getElem_cons_zero]at r1 r2 r3
   obtain⟨V,hV,v1,v2,v3,vz,vo,vO,vB⟩:=akY e1 e2 e3 (by omega) (by omega) (by omega) (.string o.v) (.bool true) (.bool o.p)
   have hii:(i:Int)<c.l.length:=by omega
   have hi0:(0:Int)≤(i:Int):=by omega
   have FIN:Hid (∀V',V'.heap=V.heap→KeepsFrom W0.heap.size W V'∧∃(pre':List (Nx rs.length)) (x':Nx rs.length) (o':Ov),pre++[x]=pre'++[x']∧(∀y∈pre',Tm.get (iO rs y).l key=none)∧Tm.get (iO rs x').l key=some o'∧(V'.heap[w.heap.size+1]? =some (.cells #[.string o'.v] 9 (0,0))∧V'.heap[w.heap.size+2]? =some (.cells #[.bool true] 4 (0,0))∧V'.heap[w.heap.size+3]? =some (.cells #[.bool o'.p] 4 (0,0)))):=hide fun V' hV'=>by
    refine⟨⟨by rw[hV',vz];exact aQ.size,fun k ob hk1 hk2 hk3=>?_⟩,pre,x,o,rfl,HN.out,by rw[HC.out];exact hget,by rw[hV'];exact vB⟩
    rw[hV',vo k (by omega) (by omega) (by omega)]
    exact(aQ.block k (aA hk2)).trans hk2
   have BV:Hid (Below w.heap.size w V):=hide (by
    have hh:=ahG.out.trans (qE.out.mono (by omega))
    exact hh.trans (vO.below (fun g hg=>by omega) hh.size))
   clear aQ d0 d2 hcell e1 e2 e3 eq HEE ho hget FR
   rw[fH]at q2'
   have HVX:=hide fH
   have hbb:b1<w.heap.size:=HBK.out x b1 (by rw[HC.out,fH];rfl)
   have lC:∀(X:World) (g j:Nat),X.heap[g]? =w5.heap[g]?→X.cell? ⟨g,j,none⟩=w5.cell? ⟨g,j,none⟩:=fun X g j h=>kC h j
   have n1:∀g,g≠w.heap.size+1→(w5.setCell ⟨w.heap.size+1,0,none⟩ (.string o.v)).heap[g]? =w5.heap[g]? :=fun g hg=>Below.heap_setCell w5 ⟨w.heap.size+1,0,none⟩ _ g hg
   have n2:∀g,g≠w.heap.size+1→g≠w.heap.size+2→((w5.setCell ⟨w.heap.size+1,0,none⟩ (.string o.v)).setCell ⟨w.heap.size+2,0,none⟩ (.bool true)).heap[g]? =w5.heap[g]? :=fun g hg hg2=>(Below.heap_setCell _ ⟨w.heap.size+2,0,none⟩ _ g hg2).trans (n1 g hg)
   have H1:=hide (show(w5.setCell ⟨w.heap.size+1,0,none⟩ (.string o.v)).cell? ⟨q,2,none⟩=some (.slice (some ⟨b1,o1,none⟩) c.l.length cq)∧(w5.setCell ⟨w.heap.size+1,0,none⟩ (.string o.v)).cell? ⟨b1,o1+i*3,none⟩=some (.bool o.p)∧(w5.setCell ⟨w.heap.size+1,0,none⟩ (.string o.v)).cell? ⟨b1,o1+i*3+2,none⟩=some (.string o.v)from
    ⟨(lC _ _ _ (n1 q (by omega))).trans q2',(lC _ _ _ (n1 b1 (by omega))).trans g0,(lC _ _ _ (n1 b1 (by omega))).trans g2⟩)
   have H2:=hide (show((w5.setCell ⟨w.heap.size+1,0,none⟩ (.string o.v)).setCell ⟨w.heap.size+2,0,none⟩ (.bool true)).cell? ⟨q,2,none⟩=some (.slice (some ⟨b1,o1,none⟩) c.l.length cq)∧((w5.setCell ⟨w.heap.size+1,0,none⟩ (.string o.v)).setCell ⟨w.heap.size+2,0,none⟩ (.bool true)).cell? ⟨b1,o1+i*3,none⟩=some (.bool o.p)∧((w5.setCell ⟨w.heap.size+1,0,none⟩ (.string o.v)).setCell ⟨w.heap.size+2,0,none⟩ (.bool true)).cell? ⟨b1,o1+i*3+2,none⟩=some (.string o.v)from
    ⟨(lC _ _ _ (n2 q (by omega) (by omega))).trans q2',(lC _ _ _ (n2 b1 (by omega) (by omega))).trans g0,(lC _ _ _ (n2 b1 (by omega) (by omega))).trans g2⟩)
   have H3:=hide (show V.cell? ⟨q,2,none⟩=some (.slice (some ⟨b1,o1,none⟩) c.l.length cq)∧V.cell? ⟨b1,o1+i*3,none⟩=some (.bool o.p)∧V.cell? ⟨b1,o1+i*3+2,none⟩=some (.string o.v)from
    ⟨(lC _ _ _ (vo q (by omega) (by omega) (by omega))).trans q2',(lC _ _ _ (vo b1 (by omega) (by omega) (by omega))).trans g0,(lC _ _ _ (vo b1 (by omega) (by omega) (by omega))).trans g2⟩)
   clear lC n1 n2
   gi_wp2
   refine aeh (ops:=(ay 7 Tryz.f287)) (S:=(fun w'=>w'.cell? ⟨q,2,none⟩=some (.slice (some ⟨b1,o1,none⟩) c.l.length cq)∧w'.cell? ⟨b1,o1+i*3,none⟩=some (.bool o.p)∧w'.cell? ⟨b1,o1+i*3+2,none⟩=some (.string o.v))) (by kernel_rfl) (by kernel_rfl) (by kernel_rfl) (fun⟨_,_,h⟩=>h) (fun _ _ _ _ _ h=>h) wT (by kernel_rfl) aqJ ⟨q2',g0,g2⟩ ?_
   unfold wT
   refine gI (v:=?_) rfl rfl (by rfl) ?_ ?_
   rotate_left 1
   ·intro w hS
    (try dsimp only at hS)
    go_simp
    all_goals with_reducible rfl
   simp only[Act.put,List.setIfInBounds_toArray,List.set_cons_zero,List.set_cons_succ]
   refine gI (v:=?_) rfl rfl (by rfl) ?_ ?_
   rotate_left 1
   ·intro w hS
    (try dsimp only at hS)
    go_simp
    all_goals with_reducible rfl
   simp only[Act.put,List.setIfInBounds_toArray,List.set_cons_zero,List.set_cons_succ]
   refine gI (v:=?_) rfl rfl (by rfl) ?_ ?_
   rotate_left 1
   ·intro w hS
    (try dsimp only at hS)
    go_simp
    all_goals with_reducible rfl
   simp only[Act.put,List.setIfInBounds_toArray,List.set_cons_zero,List.set_cons_succ]
   refine gI (v:=?_) rfl rfl (by rfl) ?_ ?_
   rotate_left 1
   ·intro w hS
    (try dsimp only at hS)
    go_simp
    all_goals with_reducible rfl
   simp only[Act.put,List.setIfInBounds_toArray,List.set_cons_zero,List.set_cons_succ]
   refine gI (v:=?_) rfl rfl (by rfl) ?_ ?_
   rotate_left 1
   ·intro w hS
    (try dsimp only at hS)
    go_simp
    all_goals with_reducible rfl
   simp only[Act.put,List.setIfInBounds_toArray,List.set_cons_zero,List.set_cons_succ]
   refine gI (v:=?_) rfl rfl (by rfl) ?_ ?_
   rotate_left 1
   ·intro w hS
    (try dsimp only at hS)
    go_simp
    all_goals with_reducible rfl
   simp only[Act.put,List.setIfInBounds_toArray,List.set_cons_zero,List.set_cons_succ]
   refine gI (v:=?_) rfl rfl (by rfl) ?_ ?_
   rotate_left 1
   ·intro w hS
    (try dsimp only at hS)
    go_simp
    all_goals with_reducible rfl
   simp only[Act.put,List.setIfInBounds_toArray,List.set_cons_zero,List.set_cons_succ]
   refine gI (v:=?_) rfl rfl (by rfl) ?_ ?_
   rotate_left 1
   ·intro w hS
    (try dsimp only at hS)
    go_simp
    all_goals with_reducible rfl
   simp only[Act.put,List.setIfInBounds_toArray,List.set_cons_zero,List.set_cons_succ]
   refine gI (v:=?_) rfl rfl (by rfl) ?_ ?_
   rotate_left 1
   ·intro w hS
    (try dsimp only at hS)
    go_simp
    all_goals with_reducible rfl
   simp only[Act.put,List.setIfInBounds_toArray,List.set_cons_zero,List.set_cons_succ]
   refine gI (v:=?_) rfl rfl (by rfl) ?_ ?_
   rotate_left 1
   ·intro w hS
    (try dsimp only at hS)
    go_simp
    all_goals with_reducible rfl
   simp only[Act.put,List.setIfInBounds_toArray,List.set_cons_zero,List.set_cons_succ]
   refine gI (v:=?_) rfl rfl (by rfl) ?_ ?_
   rotate_left 1
   ·intro w hS
    (try dsimp only at hS)
    go_simp
    all_goals with_reducible rfl
   simp only[Act.put,List.setIfInBounds_toArray,List.set_cons_zero,List.set_cons_succ]
   refine gI (v:=?_) rfl rfl (by rfl) ?_ ?_
   rotate_left 1
   ·intro w hS
    (try dsimp only at hS)
    go_simp
    all_goals with_reducible rfl
   simp only[Act.put,List.setIfInBounds_toArray,List.set_cons_zero,List.set_cons_succ]
   refine yC rfl (by rfl) (fun K hK=>?_)
   go_simp
   refine hK.out _ _ H1.out ?_
   clear hK K
   try simp only[Act.put,List.setIfInBounds_toArray,List.set_cons_zero,List.set_cons_succ]
   refine yC rfl (by rfl) (fun K hK=>?_)
   go_simp
   refine hK.out _ _ H2.out ?_
   clear hK K
   try simp only[Act.put,List.setIfInBounds_toArray,List.set_cons_zero,List.set_cons_succ]
   refine yC rfl (by rfl) (fun K hK=>?_)
   go_simp
   refine hK.out _ _ H3.out ?_
   clear hK K
   try simp only[Act.put,List.setIfInBounds_toArray,List.set_cons_zero,List.set_cons_succ]
   unfold seqW
   gi_wp2
   exact⟨(FIN.out V.drew rfl).1,rfl,(FIN.out V.drew rfl).2,BV.out.drew⟩
 case hdone=>
  rintro D xs W hD rfl ⟨hI,hN⟩ hK
  have hz:=hI.size
  have hlt:∀g,g<w.heap.size+5→W.heap[g]? =W0.heap[g]? :=fun g hg=>hI.block g (by omega)
  have e1:=(hlt _ (by omega)).trans DD.out.2.1
  have e2:=(hlt _ (by omega)).trans DD.out.2.2.1
  have e3:=(hlt _ (by omega)).trans DD.out.2.2.2
  have hnone:Tm.get (Rl.tab l) key=none:=by
   rw[yD HIS.out HGD.out key rs.length (Nat.le_refl _) hN,Nat.sub_self,List.take_zero]
   exact aqU key
  obtain⟨a1,a2,a3⟩:=ajq hnone
  have HAA:=hide (And.intro a1 (And.intro a2 a3))
  have r1:=ai e1 0 rfl;have r2:=ai e2 0 rfl;have r3:=ai e3 0 rfl
  have f1:=aB e1 0;have f2:=aB e2 0;have f3:=aB e3 0
  simp only[List.getElem_toArray,List.getElem_cons_zero]at r1 r2 r3
  have s1:W.setCell ⟨w.heap.size+1,0,none⟩ (.string ⟨#[]⟩)=W:=aM e1 (j:=0) rfl
  have s2:W.setCell ⟨w.heap.size+2,0,none⟩ (.bool false)=W:=aM e2 (j:=0) rfl
  have s3:W.setCell ⟨w.heap.size+3,0,none⟩ (.bool false)=W:=aM e3 (j:=0) rfl
  have HKD:=hide hK
  have hD':w.heap.size≤D:=by omega
  have BW:=hide (ahG.out.trans (hI.mono (by omega)))
  clear hI hN hlt hK hnone a1 a2 a3
  gi_wp2
  refine⟨by simp,.inl ⟨_,_,rfl,run_takeDeferred HKD.out,?_⟩⟩
  have k1:=cell_kept r1 (grownBy_putObj' _ D (.deferred none)) (fun r e=>by cases e;exact⟨_,HKD.out,rfl⟩)
  have k2:=cell_kept r2 (grownBy_putObj' _ D (.deferred none)) (fun r e=>by cases e;exact⟨_,HKD.out,rfl⟩)
  have k3:=cell_kept r3 (grownBy_putObj' _ D (.deferred none)) (fun r e=>by cases e;exact⟨_,HKD.out,rfl⟩)
  refine⟨.tuple #[.string ⟨#[]⟩,.bool false,.bool false],?_,by rw[HAA.out.1,HAA.out.2.1,HAA.out.2.2],BW.out.grown (grownBy_putObj' _ D (.deferred none)) BW.out.size fun k e=>by cases e;exact hD'⟩
  simp[results,Tryz.results287,go_sem,k1,k2,k3]
 case hstop=>
  rintro D c pre W hD ⟨k0,hk1,hk2⟩ ⟨rfl,⟨pre',x,o,hp,hN,hO,e1,e2,e3⟩,hB⟩ hK
  have hsome:Tm.get (Rl.tab l) key=some o:=anm HIS.out HGD.out key hk1 (by rw[←hk2];exact hp) hN hO
  obtain⟨a1,a2,a3⟩:=akT hsome
  have HAA:=hide (And.intro a1 (And.intro a2 a3))
  have r1:=ai e1 0 rfl;have r2:=ai e2 0 rfl;have r3:=ai e3 0 rfl
  simp only[List.getElem_toArray,List.getElem_cons_zero]at r1 r2 r3
  have HKD:=hide hK
  have hD':w.heap.size≤D:=by omega
  have BW:=hide hB
  clear hB hK hsome a1 a2 a3 e1 e2 e3 hp hN hO hk2
  gi_wp2
  refine⟨by simp,.inl ⟨_,_,rfl,run_takeDeferred HKD.out,?_⟩⟩
  have k1:=cell_kept r1 (grownBy_putObj' _ D (.deferred none)) (fun r e=>by cases e;exact⟨_,HKD.out,rfl⟩)
  have k2:=cell_kept r2 (grownBy_putObj' _ D (.deferred none)) (fun r e=>by cases e;exact⟨_,HKD.out,rfl⟩)
  have k3:=cell_kept r3 (grownBy_putObj' _ D (.deferred none)) (fun r e=>by cases e;exact⟨_,HKD.out,rfl⟩)
  refine⟨.tuple #[.string o.v,.bool true,.bool o.p],?_,by rw[HAA.out.1,HAA.out.2.1,HAA.out.2.2],BW.out.grown (grownBy_putObj' _ D (.deferred none)) BW.out.size fun k e=>by cases e;exact hD'⟩
  simp[results,Tryz.results287,go_sem,k1,k2,k3]
end Go.Proofs.YtlmkaljjocflmaaGreatDoor
namespace Go.Proofs.YtlmkaljjocflmaaGreatDoor
open Go.RowKit
open Bm (Ov)
set_option linter.unusedVariables false
theorem ama (p q:Nat)(F:Nat→Prop)(w:World)(s:Rl.Rs)(key:ByteArray)(h:RW p q F w s):
  Calls Tryz.prog 287 #[.pointer (some ⟨p,0,none⟩),.string key] w fun E w'=>E=.returned (.tuple #[.string (gv (Rl.tab s.l) key),.bool (Tm.met (Rl.tab s.l) key),.bool (gp (Rl.tab s.l) key)])∧Below w.heap.size w w':=by
 obtain⟨F1,G1,h1,⟨v,rs,hv,_⟩,_⟩:=h
 exact ati p q w s.l s.bk v rs key hv
end Go.Proofs.YtlmkaljjocflmaaGreatDoor
namespace Go.Proofs.YtlmkaljjocflmaaGreatDoor
open Go.RowKit
open Bm (Ov)
set_option linter.unusedVariables false
theorem aoN (w:World)(t:TypeId)(x a:Value):∃V,(w.alloc (.cells #[x] t)).setCell ⟨w.heap.size,0,none⟩ a=V∧w.alloc (.cells #[a] t)=V∧V.heap.size=w.heap.size+1∧Below w.heap.size w V∧V.heap[w.heap.size]? =some (.cells #[a] t (0,0))∧V.cell? ⟨w.heap.size,0,none⟩=some a:=by
 obtain⟨V,hV,sz,aK,hB⟩:=au w #[a] t
 refine⟨V,?_,hV,sz,aK,hB,ai hB 0 rfl⟩
 rw[←hV]
 simp[go_sem]
theorem air {l:List Cm.Cv}{k:Nat}{c:Cm.Cv}(hk:l[k]? =some c)(hl:l.length=k+1)(e:Int):Cm.lastE e l=c.e:=by
 rcases List.eq_nil_or_concat l with rfl|⟨r,d,rfl⟩
 ·simp at hk
 ·rw[List.concat_eq_append]at hk hl⊢
  rw[List.length_append,List.length_singleton]at hl
  obtain rfl:r.length=k:=by omega
  rw[(Cm.iF r d e 0).1]
  simp at hk
  rw[hk]
theorem anM (ps p q:Nat)(F:Nat→Prop)(w:World)(s:Sto.Ss)(h:SW ps p q F w s):
  Calls Tryz.prog 247 #[.pointer (some ⟨ps,0,none⟩)] w fun E w'=>E=.returned (.int .i64 (Sto.fin s))∧∃m,w'=w.drewN m:=by
 obtain⟨F1,G1,h1,⟨pm,bm,v,rs,hs,_⟩,_,ok,_⟩:=h
 have HE:Hid (∀m,Calls Tryz.prog 179 #[.pointer (some ⟨p,0,none⟩)] (w.drewN m) fun E w'=>E=.returned (.int .i64 (Cm.lastN 0 s.r.l))∧∃q,w'=(w.drewN m).drewN q):=hide fun m=>
  (mY p q F1 (w.drewN m) s.r (h1.below (below_drewN (Below.refl _ _) m))).mono fun E w' h=>⟨h.1,0,by rw[←h.2];rfl⟩
 have c0:=ai hs.blk 0 rfl
 have c1:=ai hs.blk 1 rfl
 simp only[List.getElem_toArray,List.getElem_cons_zero,List.getElem_cons_succ]at c0 c1
 obtain⟨ao,cap,hv,_,_⟩:=hs.rest.row.row.shape
 obtain⟨b1,b2,b3,b4⟩:=ok.bound
 have hl:=hs.rest.len
 unfold Sto.fin
 rw[hl]at hv
 have hw:IntKind.i64.wrap (Cm.lastN 0 s.r.l+(s.l.length:Int))=Cm.lastN 0 s.r.l+(s.l.length:Int):=aS _ (by omega) (by omega)
 generalize Cm.lastN 0 s.r.l=z at*
 generalize s.l.length=n at*
 subst hv
 clear hs h1 ok hl
 go_enter Tryz.func247,Tryz.ntmps247
 go_wp2_with fail
 go_quiet ((go_at_call 179;refine Calls.quiet_of (HE.out _)))
 go_wp2
 go_ret
 exact⟨rfl,_,rfl⟩
theorem aoS (ps p q:Nat)(F:Nat→Prop)(w:World)(s:Sto.Ss)(h:SW ps p q F w s):
  Calls Tryz.prog 246 #[.pointer (some ⟨ps,0,none⟩)] w fun E w'=>E=.returned (.int .i64 (Cm.lastE 1 s.l))∧∃m,w'=w.drewN m:=by
 obtain⟨F1,G1,h1,⟨pm,bm,v,rs,hs,_⟩,_,ok,_⟩:=h
 have c1:=ai hs.blk 1 rfl
 simp only[List.getElem_toArray,List.getElem_cons_zero,List.getElem_cons_succ]at c1
 have aok:=hs.rest.few
 rw[←hs.rest.len]at aok
 rw[←hs.rest.is]
 have h:=hs.rest.row.row
 by_cases h0:rs.length=0
 ·have hr:rs=[]:=List.eq_nil_of_length_eq_zero h0
  subst hr
  obtain⟨ao,cap,rfl,_,_⟩:=h.shape
  clear h hs h1 ok
  go_enter Tryz.func246,Tryz.ntmps246
  go_wp2
  go_ret
  exact⟨rfl,0,rfl⟩
 ·obtain⟨k,hk⟩:∃k,rs.length=k+1:=⟨rs.length-1,by omega⟩
  obtain⟨g,off,cap,rfl,_,_,_,hcell⟩:=h.full (by omega)
  obtain⟨c,hck⟩:∃c,rs[k]? =some c:=⟨rs[k]'(by omega),by rw[List.getElem?_eq_getElem]⟩
  obtain⟨d0,_,_⟩:=hcell k c hck
  have hL:Cm.lastE 1 (aH rs)=c.e:=air (k:=k) (c:=c.c) (by unfold aH;rw[List.getElem?_map,hck];rfl) (by unfold aH;rw[List.length_map];exact hk) 1
  rw[hL]
  rw[hk]at c1
  have hne:(((k+1:Nat):Int)==0)=false:=by simp;omega
  have hw:IntKind.i64.wrap (((k+1:Nat):Int)-1)=(k:Int):=by rw[aS _ (by omega) (by omega)];omega
  have hk1:(k:Int)<((k+1:Nat):Int):=by omega
  have hk0:(0:Int)≤(k:Int):=by omega
  have hw2:IntKind.i64.wrap (k:Int)=(k:Int):=aS _ (by omega) (by omega)
  have hk2:(k:Int)<(k:Int)+1:=by omega
  generalize c.e=z at*
  clear h hs h1 ok hcell hck hL hk aok h0
  go_enter Tryz.func246,Tryz.ntmps246
  go_wp2
  go_region
  go_wp2
  go_ret
  exact⟨rfl,1,rfl⟩
theorem alK (ps p q:Nat)(F:Nat→Prop)(w:World)(s:Sto.Ss)(h:SW ps p q F w s):
  Calls Tryz.prog 285 #[.pointer (some ⟨ps,0,none⟩)] w fun E w'=>(∃u,E=.returned u)∧Below w.heap.size w w':=by
 obtain⟨F1,G1,h1,⟨pm,bm,v,rs,hs,_⟩,_,ok,_⟩:=h
 have HE:=hide (mY p q F1 w s.r h1)
 have c0:=ai hs.blk 0 rfl
 have aok:=hs.rest.few
 have hrow:=hs.rest.row.row
 obtain⟨V,hV1,hV,jE,bV,BV,cV⟩:=aoN w 3 (.int .i64 0) (.int .i64 (Cm.lastN 0 s.r.l))
 have d1:=ai (hs.below bV).blk 1 rfl
 simp only[List.getElem_toArray,List.getElem_cons_zero,List.getElem_cons_succ]at c0 d1
 have hgd:=ok.rest
 rw[←hs.rest.is]at hgd
 generalize Cm.lastN 0 s.r.l=z at*
 by_cases h0:rs.length=0
 ·have hr:rs=[]:=List.eq_nil_of_length_eq_zero h0
  subst hr
  obtain⟨ao,cap,rfl,_,_⟩:=hrow.shape
  have B:=hide bV
  clear hrow hs h1 ok hgd bV BV h0
  go_enter Tryz.func285,Tryz.ntmps285
  go_wp2_with fail
  refine HE.out.mono ?_
  rintro E w1 ⟨rfl,rfl⟩
  go_wp2_with fail
  go_quiet (fail)
  go_wp2
  refine bodyPost_ret (results_none rfl _ _ _) rfl ?_
  exact⟨⟨_,rfl⟩,below_drewN B.out _⟩
 ·obtain⟨c,hck⟩:∃c,rs[0]? =some c:=⟨rs[0]'(by omega),by rw[List.getElem?_eq_getElem]⟩
  obtain⟨g,off,cap,rfl,_,_,hg,hcell⟩:=hrow.full (by omega)
  obtain⟨_,e1,_⟩:=hcell 0 c hck
  have hn:z<c.n:=by
   obtain⟨_,h2,_,_⟩:=Cm.ma _ _ _ 0 c.c hgd (by unfold aH;rw[List.getElem?_map,hck];rfl)
   have:c.c.n=c.n:=rfl
   omega
  have e1':V.cell? ⟨g,off+1,none⟩=some (.int .i64 c.n):=(bV.cell (p:=⟨g,off+1,none⟩) hg).trans (by simpa using e1)
  have hlen:((rs.length:Int)==0)=false:=beq_eq_false_iff_ne.2 (by omega)
  have hl0:(0:Int)<rs.length:=by omega
  generalize rs.length=n at*
  generalize c.n=x at*
  have B:=hide bV
  clear hrow hs h1 ok hgd bV BV h0 hcell hck e1
  go_enter Tryz.func285,Tryz.ntmps285
  go_wp2_with fail
  refine HE.out.mono ?_
  rintro E w1 ⟨rfl,rfl⟩
  go_wp2_with fail
  go_quiet (fail)
  go_wp2
  refine bodyPost_ret (results_none rfl _ _ _) rfl ?_
  exact⟨⟨_,rfl⟩,below_drewN B.out _⟩
theorem zS (ps p q:Nat)(F:Nat→Prop)(w:World)(s:Sto.Ss)(h:SW ps p q F w s):
  Calls Tryz.prog 214 #[.pointer (some ⟨ps,0,none⟩)] w fun E w'=>E=.returned (.bool true)∧Below w.heap.size w w':=by
 have HC:=hide (alK ps p q F w s h)
 obtain⟨F1,G1,h1,⟨pm,bm,v,rs,hs,_⟩,_,ok,_⟩:=h
 have c0:=ai hs.blk 0 rfl
 simp only[List.getElem_toArray,List.getElem_cons_zero]at c0
 clear hs h1 ok
 go_enter Tryz.func214,Tryz.ntmps214
 go_wp2_with fail
 refine HC.out.mono ?_
 rintro E w1 ⟨⟨u,rfl⟩,b1⟩
 go_wp2
 go_ret
 exact⟨rfl,b1⟩
theorem atY (s:Sto.Ss)(k:ByteArray):gv (Sto.fold s) k=(if Tm.met (Rl.tab s.l) k=true then gv (Rl.tab s.l) k else gv (Rl.tab s.r.l) k)∧gp (Sto.fold s) k=(if Tm.met (Rl.tab s.l) k=true then gp (Rl.tab s.l) k else gp (Rl.tab s.r.l) k):=by
 unfold gv gp
 rw[Sto.aoT,Tm.wN]
 cases Tm.get (Rl.tab s.l) k with
 |none=>simp
 |some o=>simp
theorem aji (ps p q B:Nat)(F:Nat→Prop)(w:World)(s:Sto.Ss)(k:ByteArray)(h:SW ps p q F w s)(hk:k.size≤140737488355328)(hB:w.heap[B]? =some (.cells #[.pointer (some ⟨ps,0,none⟩)] 133 (0,0))):
  Calls Tryz.prog 286 #[.string k,.pointer (some ⟨B,0,none⟩)] w fun E w'=>E=.returned (.tuple #[.string (gv (Sto.fold s) k),.bool (gp (Sto.fold s) k)])∧Below w.heap.size w w':=by
 have hx:=h
 obtain⟨F1,G1,h1,⟨pm,bm,v,rs,hs,_⟩,_,ok,_⟩:=hx
 have c0:=ai hs.blk 0 rfl
 have c2:=ai hs.blk 2 rfl
 have cB:=ai hB 0 rfl
 simp only[List.getElem_toArray,List.getElem_cons_zero,List.getElem_cons_succ]at c0 c2 cB
 have HT:=hide (aoK pm bm w _ k hs.tb hk)
 obtain⟨e1,e2⟩:=atY s k
 rw[e1,e2]
 have HR:Hid (∀W,Below w.heap.size w W→Calls Tryz.prog 287 #[.pointer (some ⟨p,0,none⟩),.string k] W fun E w'=>E=.returned (.tuple #[.string (gv (Rl.tab s.r.l) k),.bool (Tm.met (Rl.tab s.r.l) k),.bool (gp (Rl.tab s.r.l) k)])∧Below W.heap.size W w'):=hide fun W hb=>ama p q F1 W s.r k (h1.below hb)
 have hps:=aA hs.blk
 have hBB:=aA hB
 generalize Tm.met (Rl.tab s.l) k=mt at*
 generalize gv (Rl.tab s.l) k=va at*
 generalize gp (Rl.tab s.l) k=pa at*
 generalize gv (Rl.tab s.r.l) k=vb at*
 generalize gp (Rl.tab s.r.l) k=pb at*
 generalize Tm.met (Rl.tab s.r.l) k=mb at*
 clear hs h1 ok h hB e1 e2
 cases mt with
 |true=>
  simp only[if_true]
  go_enter Tryz.func286,Tryz.ntmps286
  go_wp2_with fail
  refine HT.out.mono ?_
  rintro E w1 ⟨rfl,b1⟩
  go_wp2
  go_ret2
  exact⟨rfl,b1⟩
 |false=>
  simp only[Bool.false_eq_true,if_false]
  go_enter Tryz.func286,Tryz.ntmps286
  go_wp2_with fail
  refine HT.out.mono ?_
  rintro E w1 ⟨rfl,b1⟩
  have x0:=(b1.cell (p:=⟨ps,0,none⟩) hps).trans c0
  have xB:=(b1.cell (p:=⟨B,0,none⟩) hBB).trans cB
  have HR1:=hide (HR.out w1 b1)
  go_wp2_with fail
  refine HR1.out.mono ?_
  rintro E w2 ⟨rfl,b2⟩
  go_wp2
  go_ret2
  exact⟨rfl,b1.trans (b2.mono b1.size)⟩
theorem aoc (ps p q:Nat)(F:Nat→Prop)(w:World)(s:Sto.Ss)(k:ByteArray)(h:SW ps p q F w s)(hk:k.size≤140737488355328):
  Calls Tryz.prog 160 #[.pointer (some ⟨ps,0,none⟩),.string k] w fun E w'=>E=.returned (.tuple #[.string (gv (Sto.fold s) k),.bool (gp (Sto.fold s) k)])∧Below w.heap.size w w':=by
 have HC:=hide (zS ps p q F w s h)
 have HS:=hide h
 clear h
 go_enter Tryz.func160,Tryz.ntmps160
 go_wp2_with fail
 refine HC.out.mono ?_
 rintro E w1 ⟨rfl,b1⟩
 obtain⟨V,hV,jE,bV,BV⟩:=au w1 #[.pointer (some ⟨ps,0,none⟩)] 133
 have HL:=hide (aji ps p q w1.heap.size F V s k ((HS.out.below b1).below bV) hk BV)
 have HK:Hid (Calls Tryz.prog 215 #[.pointer (some ⟨ps,0,none⟩)] w1 fun E w'=>E=.returned (.func (.func 286) #[] #[.pointer (some ⟨w1.heap.size,0,none⟩)])∧V=w'):=hide (by
  clear HL HS HC BV bV
  go_enter Tryz.func215,Tryz.ntmps215
  go_wp2
  go_ret
  exact⟨rfl,rfl⟩)
 have B1:=hide (b1.trans (bV.mono b1.size))
 clear BV bV hV HC b1
 go_wp2_with fail
 refine HK.out.mono ?_
 rintro E w2 ⟨rfl,rfl⟩
 go_wp2_with fail
 refine HL.out.mono ?_
 rintro E w3 ⟨rfl,b3⟩
 go_wp2
 go_ret2
 exact⟨rfl,B1.out.trans (b3.mono B1.out.size)⟩
end Go.Proofs.YtlmkaljjocflmaaGreatDoor
namespace Go.Proofs.YtlmkaljjocflmaaGreatDoor
open Go.RowKit
open Bm (Ov)
set_option linter.unusedVariables false
theorem aoR {rs:List Cw}{k:Nat}{c:Cw}(h:rs[k]? =some c):aH (rs.take (k+1))=aH (rs.take k)++[c.c]:=by
 obtain⟨h1,h2⟩:=List.getElem?_eq_some_iff.1 h
 rw[List.take_succ_eq_append_getElem h1,h2]
 simp[aH]
theorem aqz {l:List Cm.Cv}{c:Cm.Cv}(h:Cm.chk c.e c.n c.l=0):Tm.aft (Rl.tab l) c.l=Rl.tab (l++[c])∧Bm.first c.l=0:=by
 have h1:Bm.first c.l=0:=Bm.qg (Bm.dJ (Cm.aV h).2.2.2.2).2.2
 unfold Tm.aft
 rw[if_pos h1,Rl.adZ]
 exact⟨rfl,h1⟩
end Go.Proofs.YtlmkaljjocflmaaGreatDoor

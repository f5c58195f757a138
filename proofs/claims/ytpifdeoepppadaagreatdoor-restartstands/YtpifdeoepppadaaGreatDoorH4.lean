/- Texts of one layer, one behind the other. -/
import Derived.Test.YtpifdeoepppadaaGreatDoorG19
import Derived.Test.YtpifdeoepppadaaGreatDoorH1
import Derived.Test.YtpifdeoepppadaaGreatDoorH2
import Derived.Test.YtpifdeoepppadaaGreatDoorG8
import Derived.Test.YtpifdeoepppadaaGreatDoorH17
import Derived.Test.YtpifdeoepppadaaGreatDoorH11
set_option maxRecDepth 100000
set_option maxHeartbeats 8000000
namespace Go.Proofs.YtpifdeoepppadaaGreatDoor
open Go.RowKit Go.Shelf
open Bm (Ov)
set_option linter.unusedVariables false
attribute [local go_sem] Oper.semAt_some
theorem Tryz.axA:Tryz.prog.follows .mixedOrders=true:=by kernel_rfl
theorem alL {t:List Ov}{k:ByteArray}{o:Ov}(h:Tm.get t k=some o):gv t k=o.v∧Tm.met t k=true∧gp t k=o.p:=by
 unfold gv gp
 rw[Tm.zB,h]
 exact⟨rfl,rfl,rfl⟩
theorem ams {t:List Ov}{k:ByteArray}(h:Tm.get t k=none):gv t k=⟨#[]⟩∧Tm.met t k=false∧gp t k=false:=by
 unfold gv gp
 rw[Tm.zB,h]
 exact⟨rfl,rfl,rfl⟩
theorem ac0 {rs:List Cw}{l:List Cm.Cv}(he:aD rs=l){i:Nat}(hi:i<rs.length):l[i]? =some (jA rs ⟨i,hi⟩).c:=by
 rw[←he,aD,List.getElem?_map,List.getElem?_eq_getElem hi]
 rfl
theorem aaO {rs:List Cw}{l:List Cm.Cv}(he:aD rs=l)(hg:Rl.Good 0 l)(key:ByteArray):∀k,k≤rs.length→(∀y∈dn rs.length k,Tm.get (jA rs y).l key=none)→Tm.get (Rl.tab l) key=Tm.get (Rl.tab (l.take (rs.length-k))) key
 |0,_,_=>by
  have hl:rs.length=l.length:=by rw[←he,aD,List.length_map]
  rw[Nat.sub_zero,hl,List.take_length]
 |k+1,hk,h=>by
  rw[uE _ k (by omega)]at h
  have h1:=aaO he hg key k (by omega) fun y hy=>h y (List.mem_append_left _ hy)
  have hi:rs.length-1-k<rs.length:=by omega
  have hc:=ac0 he hi
  have hu:=(Rl.mI hg _ (List.mem_of_getElem? hc)).1
  have h2:=Rl.afZ key hu hc
  rw[show rs.length-1-k+1=rs.length-k by omega]at h2
  have h3:Tm.get (jA rs ⟨rs.length-1-k,hi⟩).c.l key=none:=h ⟨rs.length-1-k,hi⟩ (by simp)
  rw[h1,h2,h3]
  show Tm.get (Rl.tab (l.take (rs.length-1-k))) key=_
  rw[show rs.length-1-k=rs.length-(k+1)by omega]
theorem apQ {rs:List Cw}{l:List Cm.Cv}(he:aD rs=l)(hg:Rl.Good 0 l)(key:ByteArray){k:Nat}{pre:List (Nx rs.length)}{x:Nx rs.length}{o:Ov}(hk:k≤rs.length)(hp:dn rs.length k=pre++[x])(h:∀y∈pre,Tm.get (jA rs y).l key=none)(ho:Tm.get (jA rs x).l key=some o):Tm.get (Rl.tab l) key=some o:=by
 rcases k with _|k
 ·simp[dn]at hp
 ·rw[uE _ k (by omega)]at hp
  obtain⟨e1,e2⟩:=List.append_inj' hp rfl
  subst e1
  have hi:rs.length-1-k<rs.length:=by omega
  have e3:x=⟨rs.length-1-k,hi⟩:=by simpa using e2.symm
  rw[e3]at ho
  have hc:=ac0 he hi
  have hu:=(Rl.mI hg _ (List.mem_of_getElem? hc)).1
  have h2:=Rl.afZ key hu hc
  rw[show rs.length-1-k+1=rs.length-k by omega]at h2
  have h3:Tm.get (jA rs ⟨rs.length-1-k,hi⟩).c.l key=some o:=ho
  rw[aaO he hg key k (by omega) h,h2,h3]
theorem avp (key:ByteArray):Tm.get (Rl.tab []) key=none:=rfl
theorem aoj {W:World}{R1 R2 R3:Nat}{t1 t2:TypeId}{x1 x2 x3:Value}(h1:W.heap[R1]? =some (.cells #[x1] t1 (0,0)))(h2:W.heap[R2]? =some (.cells #[x2] t2 (0,0)))(h3:W.heap[R3]? =some (.cells #[x3] t2 (0,0)))(n12:R1≠R2)(n13:R1≠R3)(n23:R2≠R3)(a b c:Value):
  ∃V,((W.setCell ⟨R1,0,none⟩ a).setCell ⟨R2,0,none⟩ b).setCell ⟨R3,0,none⟩ c=V∧V.cell? ⟨R1,0,none⟩=some a∧V.cell? ⟨R2,0,none⟩=some b∧V.cell? ⟨R3,0,none⟩=some c∧V.heap.size=W.heap.size∧(∀g,g≠R1→g≠R2→g≠R3→V.heap[g]? =W.heap[g]?)∧Out (fun g=>g=R1∨g=R2∨g=R3) W V∧
   (V.heap[R1]? =some (.cells #[a] t1 (0,0))∧V.heap[R2]? =some (.cells #[b] t2 (0,0))∧V.heap[R3]? =some (.cells #[c] t2 (0,0))):=by
 have q1:=aL h1 0 a
 have q2:(W.setCell ⟨R1,0,none⟩ a).heap[R2]? =_:=(Below.heap_setCell W ⟨R1,0,none⟩ a R2 n12.symm).trans h2
 have q3:(W.setCell ⟨R1,0,none⟩ a).heap[R3]? =_:=(Below.heap_setCell W ⟨R1,0,none⟩ a R3 n13.symm).trans h3
 have r2:=aL q2 0 b
 have r1:=(Below.heap_setCell (W.setCell ⟨R1,0,none⟩ a) ⟨R2,0,none⟩ b R1 n12).trans q1
 have r3:=(Below.heap_setCell (W.setCell ⟨R1,0,none⟩ a) ⟨R2,0,none⟩ b R3 n23.symm).trans q3
 have s3:=aL r3 0 c
 have s1:=(Below.heap_setCell ((W.setCell ⟨R1,0,none⟩ a).setCell ⟨R2,0,none⟩ b) ⟨R3,0,none⟩ c R1 n13).trans r1
 have s2:=(Below.heap_setCell ((W.setCell ⟨R1,0,none⟩ a).setCell ⟨R2,0,none⟩ b) ⟨R3,0,none⟩ c R2 n23).trans r2
 have o1:Out (fun g=>g=R1∨g=R2∨g=R3) W (W.setCell ⟨R1,0,none⟩ a):=Out.aT (aC W ⟨R1,0,none⟩ a) fun g hg=>.inl (by simp at hg;exact hg.symm)
 have o2:Out (fun g=>g=R1∨g=R2∨g=R3) W ((W.setCell ⟨R1,0,none⟩ a).setCell ⟨R2,0,none⟩ b):=o1.trans (Out.aT (F:=fun g=>g=R1∨g=R2∨g=R3) (aC _ ⟨R2,0,none⟩ b) fun g hg=>.inr (.inl (by simp at hg;exact hg.symm))) fun g hg=>.inl hg
 have o3:Out (fun g=>g=R1∨g=R2∨g=R3) W (((W.setCell ⟨R1,0,none⟩ a).setCell ⟨R2,0,none⟩ b).setCell ⟨R3,0,none⟩ c):=o2.trans (Out.aT (F:=fun g=>g=R1∨g=R2∨g=R3) (aC _ ⟨R3,0,none⟩ c) fun g hg=>.inr (.inr (by simp at hg;exact hg.symm))) fun g hg=>.inl hg
 refine⟨_,rfl,ai s1 0 rfl,ai s2 0 rfl,ai s3 0 rfl,by simp,fun g n1 n2 n3=>?_,o3,by exact s1,by exact s2,by exact s3⟩
 exact(Below.heap_setCell _ _ _ g n3).trans ((Below.heap_setCell _ _ _ g n2).trans (Below.heap_setCell _ _ _ g n1))
theorem avW (p q:Nat)(w:World)(l:List Cm.Cv)(bk:Bool)(v:Value)(rs:List Cw)(key:ByteArray)(hv:xJ p q w l bk v rs):
  Calls Tryz.prog 184 #[.pointer (some ⟨p,0,none⟩),.string key] w fun E w'=>E=.returned (.tuple #[.string (gv (Rl.tab l) key),.bool (Tm.met (Rl.tab l) key),.bool (gp (Rl.tab l) key)])∧Below w.heap.size w w':=by
 obtain⟨w1,hw1,bH,ax,B1⟩:=ay w #[.string key] 9
 obtain⟨w2,hw2,fA,aB,B2⟩:=ay w1 #[.string ⟨#[]⟩] 9
 obtain⟨w3,hw3,fZ,aH,B3⟩:=ay w2 #[.bool false] 4
 obtain⟨w4,hw4,pK,aS,B4⟩:=ay w3 #[.bool false] 4
 obtain⟨W0,kL,pq,aX,B5⟩:=ay w4 #[v] 67
 rw[bH]at B2 aB
 rw[show w2.heap.size=w.heap.size+2 by omega]at B3 aH
 rw[show w3.heap.size=w.heap.size+3 by omega]at B4 aS
 rw[show w4.heap.size=w.heap.size+4 by omega]at B5 aX
 have dF:Below w.heap.size w w4:=((ax.trans (aB.mono (by omega))).trans (aH.mono (by omega))).trans (aS.mono (by omega))
 have dx:Below w.heap.size w W0:=dF.trans (aX.mono (by omega))
 have hv4:xJ p q w4 l bk v rs:=⟨(dF.block p (aA hv.blk)).trans hv.blk,hv.log.below dF⟩
 have HM:=hide (oM p q w4 _ _ hv4.blk)
 have c2:=ai hv4.blk 2 rfl
 simp only[List.getElem_toArray,List.getElem_cons_zero,List.getElem_cons_succ]at c2
 have HCH:Hid (Calls Tryz.prog 204 #[v] w4 fun e w'=>e=.returned (.func (.func 219) #[] #[.pointer (some ⟨w.heap.size+4,0,none⟩)])∧W0=w'):=hide (by
  obtain⟨a1,k1,h1,_⟩:=hv4.log.row.row.shape
  refine(aoS v ⟨a1,_,k1,h1⟩ w4).mono ?_
  rintro e w' ⟨rfl,rfl⟩
  rw[show w4.heap.size=w.heap.size+4 by omega]
  exact⟨rfl,by rw[kL]⟩)
 obtain⟨la,ln,lk,hlv⟩:∃a n k,v=.slice a n k:=by
  obtain⟨a1,k1,h1,_⟩:=hv.log.row.row.shape
  exact⟨a1,_,k1,h1⟩
 have hmx:=Tryz.axA
 have hsl:rs.length≤1048576:=hv.log.nA
 have D0:W0.heap[w.heap.size]? =some (.cells #[.string key] 9 (0,0)):=(aX.block _ (by omega)).trans ((aS.block _ (by omega)).trans ((aH.block _ (by omega)).trans ((aB.block _ (by omega)).trans B1)))
 have D1:W0.heap[w.heap.size+1]? =some (.cells #[.string ⟨#[]⟩] 9 (0,0)):=(aX.block _ (by omega)).trans ((aS.block _ (by omega)).trans ((aH.block _ (by omega)).trans B2))
 have D2:W0.heap[w.heap.size+2]? =some (.cells #[.bool false] 4 (0,0)):=(aX.block _ (by omega)).trans ((aS.block _ (by omega)).trans B3)
 have D3:W0.heap[w.heap.size+3]? =some (.cells #[.bool false] 4 (0,0)):=(aX.block _ (by omega)).trans B4
 have hrow:dZ W0 v rs:=hv.log.row.row.below dx
 have hvb:∀g,v.ownBlock=some g→g<w.heap.size:=fun g hg=>(World.ownsRow.lt hv.log.row g hg).2
 have SEQ:=hide (apR 5 (by omega) (w.heap.size+4) rs v W0 (ai B5 0 rfl) (fun g hg=>by
  rcases hg with e|e
  ·omega
  ·have:=hvb g e;omega) hrow hsl)
 have HQ:Hid (∀x:Nx rs.length,∀W,Below W0.heap.size W0 W→dm W (jA rs x).v (jA rs x).l):=hide fun x W hb=>((hv.log.gT _ (List.getElem_mem x.2)).is.below dx).below hb
 have HUP:Hid (∀x:Nx rs.length,Tm.Up (jA rs x).l∧(jA rs x).l.length≤1024):=hide fun x=>by
  have hc:=Rl.mI hv.log.good _ (List.mem_of_getElem? (ac0 hv.log.is x.2))
  exact⟨hc.1,hc.2.2⟩
 have HBK:Hid (∀x:Nx rs.length,∀b,(jA rs x).v.ownBlock=some b→b<w.heap.size):=hide fun x b hb=>((hv.log.gT _ (List.getElem_mem x.2)).block b hb).2
 have HIS:=hide hv.log.is
 have HGD:=hide hv.log.good
 have yU:=hide hvb
 replace fA:w2.heap.size=w.heap.size+2:=by omega
 replace fZ:w3.heap.size=w.heap.size+3:=by omega
 replace pK:w4.heap.size=w.heap.size+4:=by omega
 replace pq:W0.heap.size=w.heap.size+5:=by omega
 have DD:=hide (And.intro D0 (And.intro D1 (And.intro D2 D3)))
 have aku:=hide dx
 subst hlv
 clear kL hv hv4 B1 B2 B3 B4 B5 ax aB aH aS aX dF D0 D1 D2 D3 hrow hvb dx
 refine(callsIn_wide (n:=6)).1 ?_
 refine callsIn_of_wp_marks Tryz.func184 rfl trivial ?_ rfl
 simp only[Tryz.ntmps184,List.size_toArray,List.length_cons,List.length_nil,Nat.reduceAdd,Nat.reduceSub,Array.replicate_succ,Array.replicate_zero,List.push_toArray,List.append_toArray,List.nil_append,List.cons_append]
 gi_wp2_with fail
 refine⟨trivial,(callsIn_wide.2 HM.out).mono ?_⟩
 rintro E w' ⟨rfl,rfl⟩
 gi_wp2_with fail
 refine⟨trivial,(callsIn_wide.2 HCH.out).mono ?_⟩
 rintro E w' ⟨rfl,rfl⟩
 clear hw1 hw2 hw3 hw4 c2 HM HCH
 gi_wp2_with fail
 apply wpIn_rangeFunc_ownH rfl (by omega) (gf:=219) (lb:=#[.pointer (some ⟨w.heap.size+4,0,none⟩)]) rfl trivial (enters_of Tryz.func219 (by kernel_rfl) rfl) (encs:=fun x:Nx rs.length=>#[.int .i64 x.1,cvv (jA rs x)]) (Kp:=Kn (zK (w.heap.size+4) (.slice la ln lk))) SEQ.out Kn.trans (ax6 (S:=zK (w.heap.size+4) (.slice la ln lk)) (fun g hg=>by
   rcases hg with e|e
   ·omega
   ·have:=yU.out g e;omega)) (Below.refl _ _) (fun _=>rfl)
  (fun pre W=>Below W0.heap.size W0 W∧∀y∈pre,Tm.get (jA rs y).l key=none)
  (fun c pre W=>c=.ret∧(∃(pre':List (Nx rs.length)) (x:Nx rs.length) (o:Ov),pre=pre'++[x]∧(∀y∈pre',Tm.get (jA rs y).l key=none)∧Tm.get (jA rs x).l key=some o∧(W.heap[w.heap.size+1]? =some (.cells #[.string o.v] 9 (0,0))∧W.heap[w.heap.size+2]? =some (.cells #[.bool true] 4 (0,0))∧W.heap[w.heap.size+3]? =some (.cells #[.bool o.p] 4 (0,0))))∧Below w.heap.size w W)
  (fun s X Y row hs hg hr=>⟨hs.1.grown hg hs.1.size fun k e=>(hr k e).1,hs.2⟩)
  (fun c s X Y row hs hg hr=>by
   obtain⟨h1,⟨pre',x,o,h2,h3,h4,h5,h6,h7⟩,h8⟩:=hs
   have st:∀g,g<w.heap.size+5→g<X.heap.size→Y.heap[g]? =X.heap[g]? :=fun g hg1 hg2=>hg.block g hg2 fun e=>by have:=(hr g e.symm).1;omega
   exact⟨h1,⟨pre',x,o,h2,h3,h4,(st _ (by omega) (aA h5)).trans h5,(st _ (by omega) (aA h6)).trans h6,(st _ (by omega) (aA h7)).trans h7⟩,h8.grown hg h8.size fun k e=>by have:=(hr k e).1;omega⟩)
  ⟨Below.refl _ _,fun y hy=>by simp at hy⟩
  (fun x a' W=>∃q,a'={tmps:=#[.pointer (some ⟨p,0,none⟩),.string key,undef,.pointer (some ⟨w.heap.size,0,none⟩),.pointer (some ⟨w.heap.size+1,0,none⟩),.pointer (some ⟨w.heap.size+2,0,none⟩),.pointer (some ⟨w.heap.size+3,0,none⟩),undef,.pointer (some ⟨q,0,none⟩),undef,undef,.pointer (some ⟨p,0,none⟩),.bool true,.bool false,.pointer (some ⟨p,0,none⟩),.pointer (some ⟨p,0,none⟩),.pointer (some ⟨p,2,none⟩),.slice la ln lk,.func (.func 219) #[] #[.pointer (some ⟨w.heap.size+4,0,none⟩)],.int .i64 x.1,cvv (jA rs x),undef,undef,undef,undef,undef,undef,undef,undef,undef,undef,undef,undef,undef,undef,undef,undef,undef,undef,undef,undef],defers:=[]}∧W.heap[q]? =some (.cells #[.int .i64 (jA rs x).e,.int .i64 (jA rs x).n,(jA rs x).v] 122 (0,0))∧w.heap.size+5≤q)
  (fun x a' s X Y row hs hg hr=>by
   obtain⟨q,h1,h2,h3⟩:=hs
   refine⟨q,h1,(hg.block q (aA h2) fun e=>?_).trans h2,h3⟩
   obtain⟨_,o,h3,h4⟩:=hr q e.symm
   rw[h2]at h3
   cases h3
   simp[Obj.isCells]at h4)
 case hassign=>
  rintro l0 pre x W K ⟨hI,hN⟩ hK
  obtain⟨c,hc⟩:∃c,jA rs x=c:=⟨_,rfl⟩
  rw[hc]at hK⊢
  unfold cvv at hK⊢
  have hcv:∃a n k,c.v=.slice a n k:=by
   have:=HQ.out x W hI
   rw[hc]at this
   obtain⟨a1,k1,h1,_⟩:=this.shape
   exact⟨a1,_,k1,h1⟩
  obtain⟨ca,cn,ck,hcv⟩:=hcv
  have hz:=hI.size
  obtain⟨V,hV,hV2,fE,bV,BV,x0,x1,x2⟩:=dO W 122 (.int .i64 0) (.int .i64 0) (.slice none 0 0) (.int .i64 c.e) (.int .i64 c.n) c.v
  have HKK:=hide (hK _ V ((KeepsOthers.from ⟨bV.size,fun k o hk _=>(bV.block k (aA hk)).trans hk⟩ _)) (fun g hg=>bV.block g (by
   rcases hg with e|e
   ·omega
   ·have:=yU.out g e;omega)) ⟨hI.trans (bV.mono hz),hN⟩ ⟨W.heap.size,rfl,BV,by omega⟩)
  rw[hcv]at hV hV2 x2 HKK⊢
  clear hK hI bV BV
  gi_wp2
  exact HKK.out
 case hbody=>
  rintro l0 pre x a' W hl0 _ ⟨hI,hN⟩ ⟨q,rfl,hq,hq5⟩ alz
  have hz:=hI.size
  have jo:=HQ.out x W hI
  obtain⟨hup,hlen⟩:=HUP.out x
  obtain⟨c,hc⟩:∃c,jA rs x=c:=⟨_,rfl⟩
  rw[hc]at hq jo hup hlen⊢
  have hlt:∀g,g<w.heap.size+5→W.heap[g]? =W0.heap[g]? :=fun g hg=>hI.block g (by omega)
  have e0:=(hlt _ (by omega)).trans DD.out.1
  have e1:=(hlt _ (by omega)).trans DD.out.2.1
  have e2:=(hlt _ (by omega)).trans DD.out.2.2.1
  have e3:=(hlt _ (by omega)).trans DD.out.2.2.2
  have x0:W.cell? ⟨w.heap.size,0,none⟩=some (.string key):=ai e0 0 rfl
  have q2:W.cell? ⟨q,2,none⟩=some c.v:=ai hq 2 rfl
  have p8:=hide (aiA c.v c.l key W jo hup hlen)
  have HIO:=hide jo
  have HC:=hide hc
  have HEE:=hide (And.intro e1 (And.intro e2 (And.intro e3 hq)))
  have HI:=hide hI
  have HN:=hide hN
  have hq':=aA hq
  clear jo hup e0 e1 e2 e3 hI hN hlt hq hc
  gi_wp2_with fail
  refine⟨trivial,(CallsIn.inRound l0 (callsIn_wide.2 p8.out)).mono ?_⟩
  rintro E w5 ⟨i,f,rfl,aX,FR⟩
  have sz5':=aX.size
  have oH:=hide (HI.out.trans (aX.mono hz))
  have KO:=hide (show KeepsOthers W w5 from⟨aX.size,fun k o hk _=>(aX.block k (aA hk)).trans hk⟩)
  cases f with
  |false=>
   have NN:Hid (∀y∈pre++[x],Tm.get (jA rs y).l key=none):=hide fun y hy=>by
    rcases List.mem_append.1 hy with hy|hy
    ·exact HN.out y hy
    ·rw[List.mem_singleton.1 hy,HC.out]
     rcases FR.out with⟨h,_⟩|⟨_,h⟩
     ·cases h
     ·exact h
   have HKN:=hide (show Kn (zK (w.heap.size+4) (.slice la ln lk)) W w5 from fun g hg=>aX.block g (by
    rcases hg with e|e
    ·omega
    ·have:=yU.out g e;omega))
   clear aX
   gi_wp2
   exact⟨KO.out.from _,HKN.out,oH.out,NN.out⟩
  |true=>
   obtain⟨o,ho,hget⟩:∃o,c.l[i]? =some o∧Tm.get c.l key=some o:=by
    rcases FR.out with⟨_,h⟩|⟨h,_⟩
    ·exact h
    ·cases h
   have hil:=(List.getElem?_eq_some_iff.1 ho).1
   obtain⟨b1,o1,cq,dL,_,_,hB,hcell⟩:=HIO.out.full (by omega)
   obtain⟨d0,_,d2⟩:=hcell i o ho
   have g0:=(aX.cell (p:=⟨b1,o1+i*3,none⟩) hB).trans d0
   have g2:=(aX.cell (p:=⟨b1,o1+i*3+2,none⟩) hB).trans d2
   have e1:=(aX.block _ (by omega)).trans HEE.out.1
   have e2:=(aX.block _ (by omega)).trans HEE.out.2.1
   have e3:=(aX.block _ (by omega)).trans HEE.out.2.2.1
   have eq:=(aX.block _ hq').trans HEE.out.2.2.2
   have q2':w5.cell? ⟨q,2,none⟩=some c.v:=ai eq 2 rfl
   have r1:=ai e1 0 rfl;have r2:=ai e2 0 rfl;have r3:=ai e3 0 rfl
   have f1:=az e1 0;have f2:=az e2 0;have f3:=az e3 0
   simp only[List.getElem_toArray,List.getElem_cons_zero]at r1 r2 r3
   obtain⟨V,hV,v1,v2,v3,vz,vo,vO,vB⟩:=aoj e1 e2 e3 (by omega) (by omega) (by omega) (.string o.v) (.bool true) (.bool o.p)
   have hii:(i:Int)<c.l.length:=by omega
   have hi0:(0:Int)≤(i:Int):=by omega
   have FIN:Hid (∀V',V'.heap=V.heap→KeepsFrom W0.heap.size W V'∧∃(pre':List (Nx rs.length)) (x':Nx rs.length) (o':Ov),pre++[x]=pre'++[x']∧(∀y∈pre',Tm.get (jA rs y).l key=none)∧Tm.get (jA rs x').l key=some o'∧(V'.heap[w.heap.size+1]? =some (.cells #[.string o'.v] 9 (0,0))∧V'.heap[w.heap.size+2]? =some (.cells #[.bool true] 4 (0,0))∧V'.heap[w.heap.size+3]? =some (.cells #[.bool o'.p] 4 (0,0)))):=hide fun V' hV'=>by
    refine⟨⟨by rw[hV',vz];exact aX.size,fun k ob hk1 hk2 hk3=>?_⟩,pre,x,o,rfl,HN.out,by rw[HC.out];exact hget,by rw[hV'];exact vB⟩
    rw[hV',vo k (by omega) (by omega) (by omega)]
    exact(aX.block k (aA hk2)).trans hk2
   have BV:Hid (Below w.heap.size w V):=hide (by
    have hh:=aku.out.trans (oH.out.mono (by omega))
    exact hh.trans (vO.below (fun g hg=>by omega) hh.size))
   clear aX d0 d2 hcell e1 e2 e3 eq HEE ho hget FR
   rw[dL]at q2'
   have HVX:=hide dL
   have hbb:b1<w.heap.size:=HBK.out x b1 (by rw[HC.out,dL];rfl)
   have stc:∀(X:World) (g j:Nat),X.heap[g]? =w5.heap[g]?→X.cell? ⟨g,j,none⟩=w5.cell? ⟨g,j,none⟩:=fun X g j h=>iP h j
   have n1:∀g,g≠w.heap.size+1→(w5.setCell ⟨w.heap.size+1,0,none⟩ (.string o.v)).heap[g]? =w5.heap[g]? :=fun g hg=>Below.heap_setCell w5 ⟨w.heap.size+1,0,none⟩ _ g hg
   have n2:∀g,g≠w.heap.size+1→g≠w.heap.size+2→((w5.setCell ⟨w.heap.size+1,0,none⟩ (.string o.v)).setCell ⟨w.heap.size+2,0,none⟩ (.bool true)).heap[g]? =w5.heap[g]? :=fun g hg hg2=>(Below.heap_setCell _ ⟨w.heap.size+2,0,none⟩ _ g hg2).trans (n1 g hg)
   have H1:=hide (show(w5.setCell ⟨w.heap.size+1,0,none⟩ (.string o.v)).cell? ⟨q,2,none⟩=some (.slice (some ⟨b1,o1,none⟩) c.l.length cq)∧(w5.setCell ⟨w.heap.size+1,0,none⟩ (.string o.v)).cell? ⟨b1,o1+i*3,none⟩=some (.bool o.p)∧(w5.setCell ⟨w.heap.size+1,0,none⟩ (.string o.v)).cell? ⟨b1,o1+i*3+2,none⟩=some (.string o.v)from
    ⟨(stc _ _ _ (n1 q (by omega))).trans q2',(stc _ _ _ (n1 b1 (by omega))).trans g0,(stc _ _ _ (n1 b1 (by omega))).trans g2⟩)
   have H2:=hide (show((w5.setCell ⟨w.heap.size+1,0,none⟩ (.string o.v)).setCell ⟨w.heap.size+2,0,none⟩ (.bool true)).cell? ⟨q,2,none⟩=some (.slice (some ⟨b1,o1,none⟩) c.l.length cq)∧((w5.setCell ⟨w.heap.size+1,0,none⟩ (.string o.v)).setCell ⟨w.heap.size+2,0,none⟩ (.bool true)).cell? ⟨b1,o1+i*3,none⟩=some (.bool o.p)∧((w5.setCell ⟨w.heap.size+1,0,none⟩ (.string o.v)).setCell ⟨w.heap.size+2,0,none⟩ (.bool true)).cell? ⟨b1,o1+i*3+2,none⟩=some (.string o.v)from
    ⟨(stc _ _ _ (n2 q (by omega) (by omega))).trans q2',(stc _ _ _ (n2 b1 (by omega) (by omega))).trans g0,(stc _ _ _ (n2 b1 (by omega) (by omega))).trans g2⟩)
   have H3:=hide (show V.cell? ⟨q,2,none⟩=some (.slice (some ⟨b1,o1,none⟩) c.l.length cq)∧V.cell? ⟨b1,o1+i*3,none⟩=some (.bool o.p)∧V.cell? ⟨b1,o1+i*3+2,none⟩=some (.string o.v)from
    ⟨(stc _ _ _ (vo q (by omega) (by omega) (by omega))).trans q2',(stc _ _ _ (vo b1 (by omega) (by omega) (by omega))).trans g0,(stc _ _ _ (vo b1 (by omega) (by omega) (by omega))).trans g2⟩)
   clear stc n1 n2
   gi_wp2
   refine ahx (ops:=(au 7 Tryz.f184)) (S:=(fun w'=>w'.cell? ⟨q,2,none⟩=some (.slice (some ⟨b1,o1,none⟩) c.l.length cq)∧w'.cell? ⟨b1,o1+i*3,none⟩=some (.bool o.p)∧w'.cell? ⟨b1,o1+i*3+2,none⟩=some (.string o.v))) (by kernel_rfl) (by kernel_rfl) (by kernel_rfl) (fun⟨_,_,h⟩=>h) (fun _ _ _ _ _ h=>h) zN (by kernel_rfl) aur ⟨q2',g0,g2⟩ ?_
   unfold zN
   refine iM (v:=?_) rfl rfl (by rfl) ?_ ?_
   rotate_left 1
   ·intro w hS
    (try dsimp only at hS)
    go_simp
    all_goals with_reducible rfl
   simp only[Act.put,List.setIfInBounds_toArray,List.set_cons_zero,List.set_cons_succ]
   refine iM (v:=?_) rfl rfl (by rfl) ?_ ?_
   rotate_left 1
   ·intro w hS
    (try dsimp only at hS)
    go_simp
    all_goals with_reducible rfl
   simp only[Act.put,List.setIfInBounds_toArray,List.set_cons_zero,List.set_cons_succ]
   refine iM (v:=?_) rfl rfl (by rfl) ?_ ?_
   rotate_left 1
   ·intro w hS
    (try dsimp only at hS)
    go_simp
    all_goals with_reducible rfl
   simp only[Act.put,List.setIfInBounds_toArray,List.set_cons_zero,List.set_cons_succ]
   refine iM (v:=?_) rfl rfl (by rfl) ?_ ?_
   rotate_left 1
   ·intro w hS
    (try dsimp only at hS)
    go_simp
    all_goals with_reducible rfl
   simp only[Act.put,List.setIfInBounds_toArray,List.set_cons_zero,List.set_cons_succ]
   refine iM (v:=?_) rfl rfl (by rfl) ?_ ?_
   rotate_left 1
   ·intro w hS
    (try dsimp only at hS)
    go_simp
    all_goals with_reducible rfl
   simp only[Act.put,List.setIfInBounds_toArray,List.set_cons_zero,List.set_cons_succ]
   refine iM (v:=?_) rfl rfl (by rfl) ?_ ?_
   rotate_left 1
   ·intro w hS
    (try dsimp only at hS)
    go_simp
    all_goals with_reducible rfl
   simp only[Act.put,List.setIfInBounds_toArray,List.set_cons_zero,List.set_cons_succ]
   refine iM (v:=?_) rfl rfl (by rfl) ?_ ?_
   rotate_left 1
   ·intro w hS
    (try dsimp only at hS)
    go_simp
    all_goals with_reducible rfl
   simp only[Act.put,List.setIfInBounds_toArray,List.set_cons_zero,List.set_cons_succ]
   refine iM (v:=?_) rfl rfl (by rfl) ?_ ?_
   rotate_left 1
   ·intro w hS
    (try dsimp only at hS)
    go_simp
    all_goals with_reducible rfl
   simp only[Act.put,List.setIfInBounds_toArray,List.set_cons_zero,List.set_cons_succ]
   refine iM (v:=?_) rfl rfl (by rfl) ?_ ?_
   rotate_left 1
   ·intro w hS
    (try dsimp only at hS)
    go_simp
    all_goals with_reducible rfl
   simp only[Act.put,List.setIfInBounds_toArray,List.set_cons_zero,List.set_cons_succ]
   refine iM (v:=?_) rfl rfl (by rfl) ?_ ?_
   rotate_left 1
   ·intro w hS
    (try dsimp only at hS)
    go_simp
    all_goals with_reducible rfl
   simp only[Act.put,List.setIfInBounds_toArray,List.set_cons_zero,List.set_cons_succ]
   refine iM (v:=?_) rfl rfl (by rfl) ?_ ?_
   rotate_left 1
   ·intro w hS
    (try dsimp only at hS)
    go_simp
    all_goals with_reducible rfl
   simp only[Act.put,List.setIfInBounds_toArray,List.set_cons_zero,List.set_cons_succ]
   refine iM (v:=?_) rfl rfl (by rfl) ?_ ?_
   rotate_left 1
   ·intro w hS
    (try dsimp only at hS)
    go_simp
    all_goals with_reducible rfl
   simp only[Act.put,List.setIfInBounds_toArray,List.set_cons_zero,List.set_cons_succ]
   refine aaN rfl (by rfl) (fun K hK=>?_)
   go_simp
   refine hK.out _ _ H1.out ?_
   clear hK K
   try simp only[Act.put,List.setIfInBounds_toArray,List.set_cons_zero,List.set_cons_succ]
   refine aaN rfl (by rfl) (fun K hK=>?_)
   go_simp
   refine hK.out _ _ H2.out ?_
   clear hK K
   try simp only[Act.put,List.setIfInBounds_toArray,List.set_cons_zero,List.set_cons_succ]
   refine aaN rfl (by rfl) (fun K hK=>?_)
   go_simp
   refine hK.out _ _ H3.out ?_
   clear hK K
   try simp only[Act.put,List.setIfInBounds_toArray,List.set_cons_zero,List.set_cons_succ]
   unfold seqW
   gi_wp2
   exact⟨(FIN.out V.drew rfl).1,rfl,(FIN.out V.drew rfl).2,BV.out.drew⟩
 case hdone=>
  rintro D xs W hD rfl ⟨hI,hN⟩ hK
  have hz:=hI.size
  have hlt:∀g,g<w.heap.size+5→W.heap[g]? =W0.heap[g]? :=fun g hg=>hI.block g (by omega)
  have e1:=(hlt _ (by omega)).trans DD.out.2.1
  have e2:=(hlt _ (by omega)).trans DD.out.2.2.1
  have e3:=(hlt _ (by omega)).trans DD.out.2.2.2
  have hnone:Tm.get (Rl.tab l) key=none:=by
   rw[aaO HIS.out HGD.out key rs.length (Nat.le_refl _) hN,Nat.sub_self,List.take_zero]
   exact avp key
  obtain⟨a1,a2,a3⟩:=ams hnone
  have HAA:=hide (And.intro a1 (And.intro a2 a3))
  have r1:=ai e1 0 rfl;have r2:=ai e2 0 rfl;have r3:=ai e3 0 rfl
  have f1:=az e1 0;have f2:=az e2 0;have f3:=az e3 0
  simp only[List.getElem_toArray,List.getElem_cons_zero]at r1 r2 r3
  have s1:W.setCell ⟨w.heap.size+1,0,none⟩ (.string ⟨#[]⟩)=W:=aI e1 (j:=0) rfl
  have s2:W.setCell ⟨w.heap.size+2,0,none⟩ (.bool false)=W:=aI e2 (j:=0) rfl
  have s3:W.setCell ⟨w.heap.size+3,0,none⟩ (.bool false)=W:=aI e3 (j:=0) rfl
  have xM:=hide hK
  have hD':w.heap.size≤D:=by omega
  have BW:=hide (aku.out.trans (hI.mono (by omega)))
  clear hI hN hlt hK hnone a1 a2 a3
  gi_wp2
  refine⟨by simp,.inl ⟨_,_,rfl,run_takeDeferred xM.out,?_⟩⟩
  have k1:=cell_kept r1 (grownBy_putObj' _ D (.deferred none)) (fun r e=>by cases e;exact⟨_,xM.out,rfl⟩)
  have k2:=cell_kept r2 (grownBy_putObj' _ D (.deferred none)) (fun r e=>by cases e;exact⟨_,xM.out,rfl⟩)
  have k3:=cell_kept r3 (grownBy_putObj' _ D (.deferred none)) (fun r e=>by cases e;exact⟨_,xM.out,rfl⟩)
  refine⟨.tuple #[.string ⟨#[]⟩,.bool false,.bool false],?_,by rw[HAA.out.1,HAA.out.2.1,HAA.out.2.2],BW.out.grown (grownBy_putObj' _ D (.deferred none)) BW.out.size fun k e=>by cases e;exact hD'⟩
  simp[results,Tryz.results184,go_sem,k1,k2,k3]
 case hstop=>
  rintro D c pre W hD ⟨k0,hk1,hk2⟩ ⟨rfl,⟨pre',x,o,hp,hN,hO,e1,e2,e3⟩,hB⟩ hK
  have hsome:Tm.get (Rl.tab l) key=some o:=apQ HIS.out HGD.out key hk1 (by rw[←hk2];exact hp) hN hO
  obtain⟨a1,a2,a3⟩:=alL hsome
  have HAA:=hide (And.intro a1 (And.intro a2 a3))
  have r1:=ai e1 0 rfl;have r2:=ai e2 0 rfl;have r3:=ai e3 0 rfl
  simp only[List.getElem_toArray,List.getElem_cons_zero]at r1 r2 r3
  have xM:=hide hK
  have hD':w.heap.size≤D:=by omega
  have BW:=hide hB
  clear hB hK hsome a1 a2 a3 e1 e2 e3 hp hN hO hk2
  gi_wp2
  refine⟨by simp,.inl ⟨_,_,rfl,run_takeDeferred xM.out,?_⟩⟩
  have k1:=cell_kept r1 (grownBy_putObj' _ D (.deferred none)) (fun r e=>by cases e;exact⟨_,xM.out,rfl⟩)
  have k2:=cell_kept r2 (grownBy_putObj' _ D (.deferred none)) (fun r e=>by cases e;exact⟨_,xM.out,rfl⟩)
  have k3:=cell_kept r3 (grownBy_putObj' _ D (.deferred none)) (fun r e=>by cases e;exact⟨_,xM.out,rfl⟩)
  refine⟨.tuple #[.string o.v,.bool true,.bool o.p],?_,by rw[HAA.out.1,HAA.out.2.1,HAA.out.2.2],BW.out.grown (grownBy_putObj' _ D (.deferred none)) BW.out.size fun k e=>by cases e;exact hD'⟩
  simp[results,Tryz.results184,go_sem,k1,k2,k3]
end Go.Proofs.YtpifdeoepppadaaGreatDoor
namespace Go.Proofs.YtpifdeoepppadaaGreatDoor
open Go.RowKit
set_option linter.unusedVariables false
theorem fC.az2 {base:Nat}{w w':World}{rs:List Cw}(h:fC base w rs)(hb:bK 122 w w'):fC base w' rs:=fun c hc=>(h c hc).gq hb (by decide)
theorem acV (vl:Value)(r:List Cw)(w:World)(h:dZ w vl r)(hone:∀c∈r,c.v.oneCell'=true)(hl:r.length≤1048576):
  Calls Tryz.prog 147 #[vl] w fun e w'=>∃v,e=.returned v∧bG 122 w.heap.size w' v r∧Below w.heap.size w w':=by
 have q:∀(w:World) (a:Option Addr) (n c n' c':Nat),(binOp .eql 67 (.slice a n c) (.slice none n' c')).run Tryz.prog w=.ok (.bool a.isNone) w:=fun w a n c n' c'=>Lib.run_eql_slice_nil w _ _ a n c n' c' Tryz.underlying67
 by_cases hn:vl=.slice none 0 0
 ·subst hn
  have:r=[]:=by
   rcases h with⟨_,h⟩|⟨ad,cap,h,_⟩
   ·exact h
   ·simp at h
  subst this
  clear h hl
  go_enter Tryz.func147,Tryz.ntmps147
  go_wp2
  go_ret
  exact⟨_,rfl,bG.nil _ _ _,Below.refl _ _⟩
 ·obtain⟨ad,cap,rfl⟩:∃ad cap,vl=.slice (some ad) r.length cap:=by
   rcases h with⟨h,_⟩|⟨ad,cap,h,_⟩
   ·exact absurd h hn
   ·exact⟨ad,cap,h⟩
  clear hn
  obtain⟨w1,hw1,bH,ax,bJ⟩:=gN 122 w #[] 0 [] rfl rfl (by simp[maxLen])
  have h1:=h.below ax
  go_enter Tryz.func147,Tryz.ntmps147
  go_wp2_with (at_builtin;refine jd rfl (.tmp 5) (.tmp 6) 67 rfl 122 w.heap.size Tryz.underlying67 Tryz.adD _ [] rfl bJ _ r rfl h1 hone (by simp;omega) (by omega) ?_)
  intro v2 w2 bq aB _
  go_wp2
  go_ret
  exact⟨_,rfl,by simpa using bq,ax.trans aB⟩
structure aa4 (w wr:World) (g m cap:Nat) (rest:List Cw) (k:Nat) (rk:List Cw):Prop where
 row:bG 122 w.heap.size wr (.slice (some ⟨g,0,none⟩) m cap) rk
 len:rk.length=m
 left:rk.drop k=rest.drop k
 gT:fC w.heap.size wr (rk.take k)
 is:aD rk=aD rest
 ap:nH (rk.take k)
 aF:Below w.heap.size w wr
theorem aa4.next {w wr w2 w3:World}{g m cap:Nat}{rest rk:List Cw}{k:Nat}(h:aa4 w wr g m cap rest k rk){c:Cw}(hc:rest[k]? =some c)(hk:k<m){v':Value}(ho:aV 106 wr.heap.size w2 v' c.l)(hb:Below wr.heap.size wr w2)
  (hr:bG 122 w.heap.size w3 (.slice (some ⟨g,0,none⟩) m cap) (rk.set k ⟨c.e,c.n,v',c.l⟩)) (hg:w2.grownBy w3 (some g)):aa4 w w3 g m cap rest (k+1) (rk.set k ⟨c.e,c.n,v',c.l⟩):=by
 have hlen:=h.len
 have rZ:rk[k]? =some c:=by
  have e1:(rk.drop k)[0]? =(rest.drop k)[0]? :=by rw[h.left]
  rw[List.getElem?_drop,List.getElem?_drop]at e1
  simpa using e1.trans (by simpa using hc)
 have htk:(rk.set k ⟨c.e,c.n,v',c.l⟩).take (k+1)=rk.take k++[⟨c.e,c.n,v',c.l⟩]:=by
  rw[List.take_succ_eq_append_getElem (by rw[List.length_set];omega),List.take_set_of_le (Nat.le_refl _)]
  simp
 have hrow2:bG 122 w.heap.size w2 (.slice (some ⟨g,0,none⟩) m cap) rk:=h.row.below hb
 have kt:bK 122 w2 w3:=bK.pI hrow2 hg
 refine⟨hr,by rw[List.length_set];exact hlen,?_,?_,?_,?_,?_⟩
 ·rw[List.drop_set_of_lt (by omega),←List.drop_drop,h.left,List.drop_drop]
 ·rw[htk]
  exact(h.gT.below hb|>.az2 kt).snoc (c:=⟨c.e,c.n,v',c.l⟩) ((ho.gq kt (by decide)).bz h.aF.size)
 ·rw[←h.is]
  unfold aD
  rw[List.map_set]
  apply List.ext_getElem?
  intro i
  rw[List.getElem?_set]
  by_cases hik:k=i
  ·subst hik
   rw[if_pos rfl,if_pos (by rw[List.length_map];omega),List.getElem?_map,rZ]
   rfl
  ·rw[if_neg hik]
 ·rw[htk]
  refine vH (N:=wr.heap.size) h.ap (fun d hd b hb=>((h.gT d hd).block b hb).2) fun b hb=>(aV.block ho b hb).1
 ·have b2:=h.aF.trans (hb.mono h.aF.size)
  refine b2.grown hg b2.size fun i hi=>?_
  have:=(World.ownsRow.lt h.row g rfl).1
  simp only[Option.some.injEq]at hi
  omega
theorem atO (p q:Nat)(w:World)(l:List Cm.Cv)(bk:Bool)(v:Value)(rs:List Cw)(hv:xJ p q w l bk v rs):
  Calls Tryz.prog 93 #[.pointer (some ⟨p,0,none⟩)] w fun E w'=>∃v' rs',E=.returned v'∧Rq w.heap.size w' l v' rs'∧nH rs'∧Below w.heap.size w w':=by
 have HM:=hide (oM p q w _ _ hv.blk)
 have c2:w.cell? ⟨p,2,none⟩=some v:=ai hv.blk 2 rfl
 have HIS:=hide hv.log.is
 have HGD:=hide hv.log.good
 have hl:=hv.log.nA
 by_cases h0:rs.length=0
 ·have hr:rs=[]:=List.eq_nil_of_length_eq_zero h0
  subst hr
  have l7:=hide (acV v [] w hv.log.row.row (fun c hc=>by simp at hc) (by simp))
  obtain⟨ao,cap,mg,_,_⟩:=hv.log.row.row.shape
  subst mg
  clear hv h0
  go_enter Tryz.func93,Tryz.ntmps93
  go_wp2_with fail
  refine HM.out.mono ?_
  rintro E w1 ⟨rfl,rfl⟩
  go_wp2_with fail
  refine l7.out.mono ?_
  rintro E w1 ⟨v1,rfl,bJ,ax⟩
  obtain⟨a1,k1,hv1,_,_⟩:=bJ.row.shape
  simp only[List.length_nil]at hv1
  have G:=hide (show Rq w.heap.size w1 l v1 []∧nH []∧Below w.heap.size w w1 from⟨⟨bJ,fun c hc=>by simp at hc,HIS.out,HGD.out⟩,fun i j c d _ hc=>by simp at hc,ax⟩)
  subst hv1
  clear bJ ax l7 HM
  go_wp2
  go_loopw [16] (fun iv wr=>iv=.int .i64 0∧wr=w1) (fun _ _=>0)
  case atStart=>exact⟨rfl,rfl⟩
  case round=>
   obtain⟨rfl,rfl⟩:=hrel
   go_wp2
   go_ret
   first
   |exact⟨_,[],rfl,G.out⟩
   |exact⟨_,rfl,[],G.out⟩
 ·obtain⟨m,hm⟩:∃m,rs.length=m:=⟨_,rfl⟩
  obtain⟨b0,off,cap0,mg,hcap,hcm,_,_⟩:=hv.log.row.row.full (by omega)
  have ahq:Hid (∀W,Below w.heap.size w W→∀c∈rs,dm W c.v c.l∧c.l.length*40≤140737488351232):=hide fun W hb c hc=>⟨((hv.log.gT c hc).is).below hb,(uR (sI hv.log.good hv.log.is c hc)).2.1⟩
  have l7:Hid (Calls Tryz.prog 147 #[v] w fun e w'=>∃g cap,e=.returned (.slice (some ⟨g,0,none⟩) m cap)∧m≤cap∧aa4 w w' g m cap rs 0 rs):=hide (by
   refine(acV v rs w hv.log.row.row (fun c hc=>(hv.log.gT c hc).is.one) hl).mono ?_
   rintro E w' ⟨v,rfl,own,aF⟩
   rcases own.2 with⟨_,h0⟩|⟨g,cap,cur,hvv,_,_,hc,_⟩
   ·omega
   ·refine⟨g,cap,by rw[hvv,hm],by omega,by rw[←hm,←hvv];exact own,hm,rfl,fun c hc=>by simp at hc,rfl,fun i j c d _ hc=>by simp at hc,aF⟩)
  have FIN:Hid (∀W g cap rk,aa4 w W g m cap rs m rk→Rq w.heap.size W l (.slice (some ⟨g,0,none⟩) m cap) rk∧nH rk∧Below w.heap.size w W):=hide fun W g cap rk hF=>by
   have ht:rk.take m=rk:=List.take_of_length_le (by rw[hF.len];omega)
   have h1:=hF.gT
   have h2:=hF.ap
   rw[ht]at h1 h2
   exact⟨⟨hF.row,h1,by rw[hF.is];exact HIS.out,HGD.out⟩,h2,hF.aF⟩
  have HRL:=hide hm
  rw[mg,hm]at l7
  rw[mg,hm]at c2
  rw[hm]at hl h0
  clear hv mg hcm hm hcap
  go_enter Tryz.func93,Tryz.ntmps93
  go_wp2_with fail
  refine HM.out.mono ?_
  rintro E w1 ⟨rfl,rfl⟩
  go_wp2_with fail
  refine l7.out.mono ?_
  rintro E w1 ⟨g,cap,rfl,hcp,F0⟩
  have F0:=hide F0
  clear l7 HM
  go_wp2
  go_loopw [16] (fun iv wr=>∃(k:Nat) (rk:List Cw),k≤m∧iv=.int .i64 k∧Hid (aa4 w wr g m cap rs k rk)) (fun iv _=>m-(intOf iv).toNat)
  case atStart=>exact⟨0,rs,by omega,rfl,F0⟩
  case round=>
   obtain⟨k,rk,hk,rfl,eH⟩:=hrel
   by_cases hlt:k<m
   ·obtain⟨c,hc⟩:∃c,rs[k]? =some c:=⟨rs[k]'(by rw[HRL.out];omega),by rw[List.getElem?_eq_getElem]⟩
    have hcm:=List.mem_of_getElem? hc
    have rZ:rk[k]? =some c:=by
     have e1:(rk.drop k)[0]? =(rs.drop k)[0]? :=by rw[eH.out.left]
     rw[List.getElem?_drop,List.getElem?_drop]at e1
     simpa using e1.trans (by simpa using hc)
    obtain⟨⟨d0,d1,d2⟩,_⟩:=mD eH.out.row eH.out.len k c rZ
    obtain⟨wa,hwa,afY,sza,jL,bA,x0,x1,x2⟩:=dO wr 122 (.int .i64 0) (.int .i64 0) (.slice none 0 0) (.int .i64 c.e) (.int .i64 c.n) c.v
    obtain⟨jo,hlo⟩:=ahq.out wr eH.out.aF c hcm
    have CP:Hid (Calls Tryz.prog 148 #[.agg #[.int .i64 c.e,.int .i64 c.n,c.v]] wa fun E w2=>∃v2,E=.returned (.agg #[.int .i64 c.e,.int .i64 c.n,v2])∧(∃a n z,v2=.slice a n z)∧(∃W,((w2.setCell ⟨g,k*3,none⟩ (.int .i64 c.e)).setCell ⟨g,k*3+1,none⟩ (.int .i64 c.n)).setCell ⟨g,k*3+2,none⟩ v2=W∧∃rk2,aa4 w W g m cap rs (k+1) rk2)∧(w2.cell? ⟨g,k*3,none⟩=some (.int .i64 c.e)∧w2.cell? ⟨g,k*3+1,none⟩=some (.int .i64 c.n)∧w2.cell? ⟨g,k*3+2,none⟩=some c.v)∧(w2.frozen? ⟨g,k*3,none⟩=false∧w2.frozen? ⟨g,k*3+1,none⟩=false∧w2.frozen? ⟨g,k*3+2,none⟩=false)):=hide (by
     refine(aaH c.e c.n c.v c.l wa (jo.below jL) hlo).mono ?_
     rintro E w2 ⟨v2,rfl,bq,aB⟩
     have b2:Below wr.heap.size wr w2:=jL.trans (aB.mono jL.size)
     have hrow2:bG 122 w.heap.size w2 (.slice (some ⟨g,0,none⟩) m cap) rk:=eH.out.row.below b2
     obtain⟨W,hW,oW,gW⟩:=vV hrow2 eH.out.len k hlt ⟨c.e,c.n,v2,c.l⟩
     obtain⟨y,z⟩:=mD hrow2 eH.out.len k c rZ
     exact⟨v2,rfl,(by obtain⟨xa,xc,hx,_⟩:=bq.is.shape;exact⟨_,_,_,hx⟩),⟨W,hW,_,eH.out.next hc hlt (bq.bz jL.size) b2 oW gW⟩,y,z⟩)
    obtain⟨ca,cc,hcv,_,_⟩:=jo.shape
    rw[hcv]at d2 hwa afY x2 CP
    have hlt':(k:Int)<m:=by omega
    clear eH jo hlo rZ jL bA hc hcm
    go_wp2_with fail
    refine CP.out.mono ?_
    rintro E w2 ⟨v2,rfl,⟨a2,n2,z2,rfl⟩,⟨W,hW,rk2,F2⟩,⟨y0,y1,y2⟩,⟨f0,f1,f2⟩⟩
    have F2:=hide F2
    clear CP
    go_wp2
    go_roundw
    case rel=>exact⟨k+1,rk2,by omega,by go_num,F2⟩
    case measure=>simp[intOf];omega
   ·obtain rfl:k=m:=by omega
    have hlt':¬(k:Int)<k:=by omega
    have G:=hide (FIN.out _ g cap rk eH.out)
    clear eH
    go_wp2
    go_ret
    first
    |exact⟨_,rk,rfl,G.out⟩
    |exact⟨_,rfl,rk,G.out⟩
theorem aap (p q pw pr:Nat)(F F':Nat→Prop)(w:World)(off:Bool)(x:Pm.Pg)(en:Int)(vs:Value)(sw:Wl.Ws)(sr:Rl.Rs)(hb:w.heap[p]? =some (.cells (fw q off x (.pointer (some ⟨pw,0,none⟩)) en (.pointer (some ⟨pr,0,none⟩)) vs) 60 (0,0)))(h1:WW pw q F w sw)(h2:RW pr q F' w sr):
  Calls Tryz.prog 47 #[.pointer (some ⟨p,0,none⟩)] w fun E w'=>E=.returned (.agg (jy x (Cm.lastE 0 sw.l) en (Cm.lastN 0 sr.l) p))∧Below w.heap.size w w':=by
 have qf:∀(fn:Fn) (first cap:Array Value) (w:World),(Instr.makeFunc fn first cap).run Tryz.prog w=.ok (.func fn first cap) w:=fun _ _ _ _=>rfl
 have hsf:∀(a:Addr) (fn:Fn) (first cap:Array Value) (w:World),(store a (.func fn first cap)).run Tryz.prog w=stored Tryz.prog w a (.func fn first cap) .plain:=fun a fn first cap w=>run_store _ w a _ _ rfl
 have hpl:=aA hb
 obtain⟨w1,hw1,s1,b1,P1⟩:=ay w #[.int .i64 0,.int .u8 0,.int .i64 0,.int .u8 0,.int .i64 0,.int .i64 0,.int .i64 0,.int .i64 0,.int .i64 0,.nilFunc] 95
 obtain⟨K,hK⟩:∃K:World→Prop,K=fun W=>Hid (W.heap[p]? =w.heap[p]?∧W.heap[w.heap.size]? =some (.cells #[.int .i64 0,.int .u8 0,.int .i64 0,.int .u8 0,.int .i64 0,.int .i64 0,.int .i64 0,.int .i64 0,.int .i64 0,.nilFunc] 95 (0,0))∧Below w.heap.size w W):=⟨_,rfl⟩
 have HE:Hid (∀W,K W→Calls Tryz.prog 54 #[.pointer (some ⟨pw,0,none⟩)] W fun E w'=>E=.returned (.int .i64 (Cm.lastE 0 sw.l))∧K w'):=hide fun W k=>by
  subst hK
  refine(abK pw q F W sw (h1.below k.out.2.2)).mono ?_
  rintro E w' ⟨rfl,m,rfl⟩
  exact⟨rfl,hide ⟨k.out.1,k.out.2.1,below_drewN k.out.2.2 m⟩⟩
 have HR:Hid (∀W,K W→Calls Tryz.prog 113 #[.pointer (some ⟨pr,0,none⟩)] W fun E w'=>E=.returned (.int .i64 (Cm.lastN 0 sr.l))∧K w'):=hide fun W k=>by
  subst hK
  refine(jH pr q F' W sr (h2.below k.out.2.2)).mono ?_
  rintro E w' ⟨rfl,rfl⟩
  exact⟨rfl,k⟩
 generalize Cm.lastE 0 sw.l=ep at*
 generalize Cm.lastN 0 sr.l=rn at*
 obtain⟨SS,hSS⟩:∃SS:World→Prop,SS=(fun W=>W.cell? ⟨p,2,none⟩=some (.int .i64 x.e)∧W.cell? ⟨p,3,none⟩=some (.int .u8 x.r)∧W.cell? ⟨p,4,none⟩=some (.int .i64 x.a)∧W.cell? ⟨p,5,none⟩=some (.int .u8 x.p)∧W.cell? ⟨p,6,none⟩=some (.int .i64 x.f)∧W.cell? ⟨p,7,none⟩=some (.int .i64 x.b)∧W.cell? ⟨p,8,none⟩=some (.pointer (some ⟨pw,0,none⟩))∧W.cell? ⟨p,9,none⟩=some (.int .i64 en)∧W.cell? ⟨p,11,none⟩=some (.pointer (some ⟨pr,0,none⟩))):=⟨_,rfl⟩
 have sB:∀W,W.heap[p]? =w.heap[p]?→SS W:=fun W k=>by
  subst hSS
  obtain⟨c0,_,c2,c3,c4,c5,c6,c7,c8,c9,_,c11,_⟩:=kH (k.trans hb)
  exact⟨c2,c3,c4,c5,c6,c7,c8,c9,c11⟩
 have KS:Hid (∀W,K W→SS W):=hide fun W k=>by
  subst hK
  exact sB W k.out.1
 have PUT:Hid (∀W V,W.heap[w.heap.size]? =some (.cells #[.int .i64 0,.int .u8 0,.int .i64 0,.int .u8 0,.int .i64 0,.int .i64 0,.int .i64 0,.int .i64 0,.int .i64 0,.nilFunc] 95 (0,0))→Below w.heap.size w W→W.grownBy V (some w.heap.size)→SS V∧Below w.heap.size w V):=hide fun W V k1 k2 k3=>by
  have hs:=k2.size
  have b:=aK k2 k3 (Nat.le_refl _) (by omega)
  exact⟨sB V (b.block p hpl),b⟩
 obtain⟨W0,hW0⟩:∃W,w1.drew=W:=⟨_,rfl⟩
 have K0:K W0:=by
  subst hK
  rw[←hW0]
  exact hide ⟨b1.block p hpl,P1,b1.drew⟩
 subst hK hSS
 clear h1 h2 hb P1 b1 s1 sB
 go_enter Tryz.func47,Tryz.ntmps47
 go_wp2_with fail
 refine je (ops:=(au 1 Tryz.f47)) (S:=fun W=>W.cell? ⟨p,2,none⟩=some (.int .i64 x.e)∧W.cell? ⟨p,3,none⟩=some (.int .u8 x.r)∧W.cell? ⟨p,4,none⟩=some (.int .i64 x.a)∧W.cell? ⟨p,5,none⟩=some (.int .u8 x.p)∧W.cell? ⟨p,6,none⟩=some (.int .i64 x.f)∧W.cell? ⟨p,7,none⟩=some (.int .i64 x.b)∧W.cell? ⟨p,8,none⟩=some (.pointer (some ⟨pw,0,none⟩))∧W.cell? ⟨p,9,none⟩=some (.int .i64 en)∧W.cell? ⟨p,11,none⟩=some (.pointer (some ⟨pr,0,none⟩))) (by kernel_rfl) arJ ?_
 rw[auO,hW0]
 refine aG (v:=?_) aqz (by kernel_rfl) (fun _ _ _ _ _ h=>h) (KS.out _ K0) rfl rfl (by rfl) ?_ ?_
 rotate_left 1
 ·intro w hS
  (try dsimp only at hS)
  go_simp
  all_goals with_reducible rfl
 simp only[Act.put,List.setIfInBounds_toArray,List.set_cons_zero,List.set_cons_succ]
 refine aG (v:=?_) aqb (by kernel_rfl) (fun _ _ _ _ _ h=>h) (KS.out _ K0) rfl rfl (by rfl) ?_ ?_
 rotate_left 1
 ·intro w hS
  (try dsimp only at hS)
  go_simp
  all_goals with_reducible rfl
 simp only[Act.put,List.setIfInBounds_toArray,List.set_cons_zero,List.set_cons_succ]
 refine aG (v:=?_) arA (by kernel_rfl) (fun _ _ _ _ _ h=>h) (KS.out _ K0) rfl rfl (by rfl) ?_ ?_
 rotate_left 1
 ·intro w hS
  (try dsimp only at hS)
  go_simp
  all_goals with_reducible rfl
 simp only[Act.put,List.setIfInBounds_toArray,List.set_cons_zero,List.set_cons_succ]
 refine aG (v:=?_) apa (by kernel_rfl) (fun _ _ _ _ _ h=>h) (KS.out _ K0) rfl rfl (by rfl) ?_ ?_
 rotate_left 1
 ·intro w hS
  (try dsimp only at hS)
  go_simp
  all_goals with_reducible rfl
 simp only[Act.put,List.setIfInBounds_toArray,List.set_cons_zero,List.set_cons_succ]
 refine aG (v:=?_) al1 (by kernel_rfl) (fun _ _ _ _ _ h=>h) (KS.out _ K0) rfl rfl (by rfl) ?_ ?_
 rotate_left 1
 ·intro w hS
  (try dsimp only at hS)
  go_simp
  all_goals with_reducible rfl
 simp only[Act.put,List.setIfInBounds_toArray,List.set_cons_zero,List.set_cons_succ]
 refine aG (v:=?_) ana (by kernel_rfl) (fun _ _ _ _ _ h=>h) (KS.out _ K0) rfl rfl (by rfl) ?_ ?_
 rotate_left 1
 ·intro w hS
  (try dsimp only at hS)
  go_simp
  all_goals with_reducible rfl
 simp only[Act.put,List.setIfInBounds_toArray,List.set_cons_zero,List.set_cons_succ]
 refine aG (v:=?_) anJ (by kernel_rfl) (fun _ _ _ _ _ h=>h) (KS.out _ K0) rfl rfl (by rfl) ?_ ?_
 rotate_left 1
 ·intro w hS
  (try dsimp only at hS)
  go_simp
  all_goals with_reducible rfl
 simp only[Act.put,List.setIfInBounds_toArray,List.set_cons_zero,List.set_cons_succ]
 refine aG (v:=?_) akE (by kernel_rfl) (fun _ _ _ _ _ h=>h) (KS.out _ K0) rfl rfl (by rfl) ?_ ?_
 rotate_left 1
 ·intro w hS
  (try dsimp only at hS)
  go_simp
  all_goals with_reducible rfl
 simp only[Act.put,List.setIfInBounds_toArray,List.set_cons_zero,List.set_cons_succ]
 refine aG (v:=?_) akx (by kernel_rfl) (fun _ _ _ _ _ h=>h) (KS.out _ K0) rfl rfl (by rfl) ?_ ?_
 rotate_left 1
 ·intro w hS
  (try dsimp only at hS)
  go_simp
  all_goals with_reducible rfl
 simp only[Act.put,List.setIfInBounds_toArray,List.set_cons_zero,List.set_cons_succ]
 refine aG (v:=?_) ajO (by kernel_rfl) (fun _ _ _ _ _ h=>h) (KS.out _ K0) rfl rfl (by rfl) ?_ ?_
 rotate_left 1
 ·intro w hS
  (try dsimp only at hS)
  go_simp
  all_goals with_reducible rfl
 simp only[Act.put,List.setIfInBounds_toArray,List.set_cons_zero,List.set_cons_succ]
 refine aG (v:=?_) ag2 (by kernel_rfl) (fun _ _ _ _ _ h=>h) (KS.out _ K0) rfl rfl (by rfl) ?_ ?_
 rotate_left 1
 ·intro w hS
  (try dsimp only at hS)
  go_simp
  all_goals with_reducible rfl
 simp only[Act.put,List.setIfInBounds_toArray,List.set_cons_zero,List.set_cons_succ]
 refine aG (v:=?_) agr (by kernel_rfl) (fun _ _ _ _ _ h=>h) (KS.out _ K0) rfl rfl (by rfl) ?_ ?_
 rotate_left 1
 ·intro w hS
  (try dsimp only at hS)
  go_simp
  all_goals with_reducible rfl
 simp only[Act.put,List.setIfInBounds_toArray,List.set_cons_zero,List.set_cons_succ]
 refine aG (v:=?_) ah4 (by kernel_rfl) (fun _ _ _ _ _ h=>h) (KS.out _ K0) rfl rfl (by rfl) ?_ ?_
 rotate_left 1
 ·intro w hS
  (try dsimp only at hS)
  go_simp
  all_goals with_reducible rfl
 simp only[Act.put,List.setIfInBounds_toArray,List.set_cons_zero,List.set_cons_succ]
 refine aG (v:=?_) aeY (by kernel_rfl) (fun _ _ _ _ _ h=>h) (KS.out _ K0) rfl rfl (by rfl) ?_ ?_
 rotate_left 1
 ·intro w hS
  (try dsimp only at hS)
  go_simp
  all_goals with_reducible rfl
 simp only[Act.put,List.setIfInBounds_toArray,List.set_cons_zero,List.set_cons_succ]
 refine aG (v:=?_) ae0 (by kernel_rfl) (fun _ _ _ _ _ h=>h) (KS.out _ K0) rfl rfl (by rfl) ?_ ?_
 rotate_left 1
 ·intro w hS
  (try dsimp only at hS)
  go_simp
  all_goals with_reducible rfl
 simp only[Act.put,List.setIfInBounds_toArray,List.set_cons_zero,List.set_cons_succ]
 refine aG (v:=?_) aeS (by kernel_rfl) (fun _ _ _ _ _ h=>h) (KS.out _ K0) rfl rfl (by rfl) ?_ ?_
 rotate_left 1
 ·intro w hS
  (try dsimp only at hS)
  go_simp
  all_goals with_reducible rfl
 simp only[Act.put,List.setIfInBounds_toArray,List.set_cons_zero,List.set_cons_succ]
 refine aG (v:=?_) ac3 (by kernel_rfl) (fun _ _ _ _ _ h=>h) (KS.out _ K0) rfl rfl (by rfl) ?_ ?_
 rotate_left 1
 ·intro w hS
  (try dsimp only at hS)
  go_simp
  all_goals with_reducible rfl
 simp only[Act.put,List.setIfInBounds_toArray,List.set_cons_zero,List.set_cons_succ]
 refine aG (v:=?_) ac7 (by kernel_rfl) (fun _ _ _ _ _ h=>h) (KS.out _ K0) rfl rfl (by rfl) ?_ ?_
 rotate_left 1
 ·intro w hS
  (try dsimp only at hS)
  go_simp
  all_goals with_reducible rfl
 simp only[Act.put,List.setIfInBounds_toArray,List.set_cons_zero,List.set_cons_succ]
 refine aG (v:=?_) adf (by kernel_rfl) (fun _ _ _ _ _ h=>h) (KS.out _ K0) rfl rfl (by rfl) ?_ ?_
 rotate_left 1
 ·intro w hS
  (try dsimp only at hS)
  go_simp
  all_goals with_reducible rfl
 simp only[Act.put,List.setIfInBounds_toArray,List.set_cons_zero,List.set_cons_succ]
 refine aG (v:=?_) abI (by kernel_rfl) (fun _ _ _ _ _ h=>h) (KS.out _ K0) rfl rfl (by rfl) ?_ ?_
 rotate_left 1
 ·intro w hS
  (try dsimp only at hS)
  go_simp
  all_goals with_reducible rfl
 simp only[Act.put,List.setIfInBounds_toArray,List.set_cons_zero,List.set_cons_succ]
 refine aG (v:=?_) acR (by kernel_rfl) (fun _ _ _ _ _ h=>h) (KS.out _ K0) rfl rfl (by rfl) ?_ ?_
 rotate_left 1
 ·intro w hS
  (try dsimp only at hS)
  go_simp
  all_goals with_reducible rfl
 simp only[Act.put,List.setIfInBounds_toArray,List.set_cons_zero,List.set_cons_succ]
 refine aG (v:=?_) acK (by kernel_rfl) (fun _ _ _ _ _ h=>h) (KS.out _ K0) rfl rfl (by rfl) ?_ ?_
 rotate_left 1
 ·intro w hS
  (try dsimp only at hS)
  go_simp
  all_goals with_reducible rfl
 simp only[Act.put,List.setIfInBounds_toArray,List.set_cons_zero,List.set_cons_succ]
 refine aG (v:=?_) aaX (by kernel_rfl) (fun _ _ _ _ _ h=>h) (KS.out _ K0) rfl rfl (by rfl) ?_ ?_
 rotate_left 1
 ·intro w hS
  (try dsimp only at hS)
  go_simp
  all_goals with_reducible rfl
 simp only[Act.put,List.setIfInBounds_toArray,List.set_cons_zero,List.set_cons_succ]
 refine iF ae2 ?_ ?_
 ·refine aM rfl (by rfl) (fun K hK=>?_)
  go_simp
  refine(HE.out _ K0).mono ?_
  rintro E U1 ⟨rfl,k1⟩
  go_wp2_with fail
  refine hK.out _ _ (KS.out _ k1) ?_
  clear hK K
  try simp only[Act.put,List.setIfInBounds_toArray,List.set_cons_zero,List.set_cons_succ]
  refine iF aeT ?_ ?_
  ·refine aM rfl (by rfl) (fun K hK=>?_)
   go_simp
   refine(HR.out _ k1).mono ?_
   rintro E U2 ⟨rfl,k2⟩
   go_wp2_with fail
   refine hK.out _ _ (KS.out _ k2) ?_
   clear hK K
   try simp only[Act.put,List.setIfInBounds_toArray,List.set_cons_zero,List.set_cons_succ]
   refine aQ ae9 ?_
   refine aM rfl (by rfl) (fun K hK=>?_)
   go_simp
   go_wp2_with fail
   refine hK.out _ _ (KS.out _ k2) ?_
   clear hK K
   try simp only[Act.put,List.setIfInBounds_toArray,List.set_cons_zero,List.set_cons_succ]
   refine aG (v:=?_) lQ (by kernel_rfl) (fun _ _ _ _ _ h=>h) (KS.out _ k2) rfl rfl (by rfl) ?_ ?_
   rotate_left 1
   ·intro w hS
    (try dsimp only at hS)
    go_simp
    all_goals with_reducible rfl
   simp only[Act.put,List.setIfInBounds_toArray,List.set_cons_zero,List.set_cons_succ]
   refine aQ nO ?_
   obtain⟨pb,bb⟩:=k2.out.2
   obtain⟨V,hV,bV,gV,⟨a0,a1,a2,a3,a4,a5,a6,a7,a8,a9⟩,fr,⟨z0,z1,z2,z3,z4,z5,z6,z7,z8,z9⟩⟩:=afp pb (.int .i64 x.e) (.int .u8 x.r) (.int .i64 x.a) (.int .u8 x.p) (.int .i64 x.f) (.int .i64 x.b) (.int .i64 ep) (.int .i64 en) (.int .i64 rn) (.func (.func 114) #[.pointer (some ⟨p,0,none⟩)] #[])
   have f0:=fr 0;have f1:=fr 1;have f2:=fr 2;have f3:=fr 3;have f4:=fr 4;have f5:=fr 5;have f6:=fr 6;have f7:=fr 7;have f8:=fr 8;have f9:=fr 9
   have SV:=hide (PUT.out _ _ pb bb gV)
   clear bV gV fr pb bb
   refine aM rfl (by rfl) (fun K hK=>?_)
   go_simp
   go_wp2_with fail
   refine hK.out _ _ SV.out.1 ?_
   clear hK K
   try simp only[Act.put,List.setIfInBounds_toArray,List.set_cons_zero,List.set_cons_succ]
   refine dz adi ?_
   clear HE HR KS PUT
   go_wp2
   refine bodyPost_ret (v:=.agg (jy x ep en rn p)) (by simp[results,Tryz.results47,go_sem,z0,z1,z2,z3,z4,z5,z6,z7,z8,z9,jy]) rfl ?_
   exact⟨rfl,SV.out.2⟩
  ·refine aM rfl (by rfl) (fun K hK=>?_)
   go_simp
   go_wp2_with fail
   refine hK.out _ _ (KS.out _ k1) ?_
   clear hK K
   try simp only[Act.put,List.setIfInBounds_toArray,List.set_cons_zero,List.set_cons_succ]
   refine aQ xP ?_
   refine aM rfl (by rfl) (fun K hK=>?_)
   go_simp
   refine(HR.out _ k1).mono ?_
   rintro E U6 ⟨rfl,k6⟩
   go_wp2_with fail
   refine hK.out _ _ (KS.out _ k6) ?_
   clear hK K
   try simp only[Act.put,List.setIfInBounds_toArray,List.set_cons_zero,List.set_cons_succ]
   refine aG (v:=?_) lQ (by kernel_rfl) (fun _ _ _ _ _ h=>h) (KS.out _ k6) rfl rfl (by rfl) ?_ ?_
   rotate_left 1
   ·intro w hS
    (try dsimp only at hS)
    go_simp
    all_goals with_reducible rfl
   simp only[Act.put,List.setIfInBounds_toArray,List.set_cons_zero,List.set_cons_succ]
   refine aQ nO ?_
   obtain⟨pb,bb⟩:=k6.out.2
   obtain⟨V,hV,bV,gV,⟨a0,a1,a2,a3,a4,a5,a6,a7,a8,a9⟩,fr,⟨z0,z1,z2,z3,z4,z5,z6,z7,z8,z9⟩⟩:=afp pb (.int .i64 x.e) (.int .u8 x.r) (.int .i64 x.a) (.int .u8 x.p) (.int .i64 x.f) (.int .i64 x.b) (.int .i64 ep) (.int .i64 en) (.int .i64 rn) (.func (.func 114) #[.pointer (some ⟨p,0,none⟩)] #[])
   have f0:=fr 0;have f1:=fr 1;have f2:=fr 2;have f3:=fr 3;have f4:=fr 4;have f5:=fr 5;have f6:=fr 6;have f7:=fr 7;have f8:=fr 8;have f9:=fr 9
   have SV:=hide (PUT.out _ _ pb bb gV)
   clear bV gV fr pb bb
   refine aM rfl (by rfl) (fun K hK=>?_)
   go_simp
   go_wp2_with fail
   refine hK.out _ _ SV.out.1 ?_
   clear hK K
   try simp only[Act.put,List.setIfInBounds_toArray,List.set_cons_zero,List.set_cons_succ]
   refine dz adi ?_
   clear HE HR KS PUT
   go_wp2
   refine bodyPost_ret (v:=.agg (jy x ep en rn p)) (by simp[results,Tryz.results47,go_sem,z0,z1,z2,z3,z4,z5,z6,z7,z8,z9,jy]) rfl ?_
   exact⟨rfl,SV.out.2⟩
 ·refine aM rfl (by rfl) (fun K hK=>?_)
  go_simp
  go_wp2_with fail
  refine hK.out _ _ (KS.out _ K0) ?_
  clear hK K
  try simp only[Act.put,List.setIfInBounds_toArray,List.set_cons_zero,List.set_cons_succ]
  refine aQ ae4 ?_
  refine aM rfl (by rfl) (fun K hK=>?_)
  go_simp
  refine(HE.out _ K0).mono ?_
  rintro E U9 ⟨rfl,k9⟩
  go_wp2_with fail
  refine hK.out _ _ (KS.out _ k9) ?_
  clear hK K
  try simp only[Act.put,List.setIfInBounds_toArray,List.set_cons_zero,List.set_cons_succ]
  refine aQ xP ?_
  refine aM rfl (by rfl) (fun K hK=>?_)
  go_simp
  refine(HR.out _ k9).mono ?_
  rintro E U10 ⟨rfl,k10⟩
  go_wp2_with fail
  refine hK.out _ _ (KS.out _ k10) ?_
  clear hK K
  try simp only[Act.put,List.setIfInBounds_toArray,List.set_cons_zero,List.set_cons_succ]
  refine aG (v:=?_) lQ (by kernel_rfl) (fun _ _ _ _ _ h=>h) (KS.out _ k10) rfl rfl (by rfl) ?_ ?_
  rotate_left 1
  ·intro w hS
   (try dsimp only at hS)
   go_simp
   all_goals with_reducible rfl
  simp only[Act.put,List.setIfInBounds_toArray,List.set_cons_zero,List.set_cons_succ]
  refine aQ nO ?_
  obtain⟨pb,bb⟩:=k10.out.2
  obtain⟨V,hV,bV,gV,⟨a0,a1,a2,a3,a4,a5,a6,a7,a8,a9⟩,fr,⟨z0,z1,z2,z3,z4,z5,z6,z7,z8,z9⟩⟩:=afp pb (.int .i64 x.e) (.int .u8 x.r) (.int .i64 x.a) (.int .u8 x.p) (.int .i64 x.f) (.int .i64 x.b) (.int .i64 ep) (.int .i64 en) (.int .i64 rn) (.func (.func 114) #[.pointer (some ⟨p,0,none⟩)] #[])
  have f0:=fr 0;have f1:=fr 1;have f2:=fr 2;have f3:=fr 3;have f4:=fr 4;have f5:=fr 5;have f6:=fr 6;have f7:=fr 7;have f8:=fr 8;have f9:=fr 9
  have SV:=hide (PUT.out _ _ pb bb gV)
  clear bV gV fr pb bb
  refine aM rfl (by rfl) (fun K hK=>?_)
  go_simp
  go_wp2_with fail
  refine hK.out _ _ SV.out.1 ?_
  clear hK K
  try simp only[Act.put,List.setIfInBounds_toArray,List.set_cons_zero,List.set_cons_succ]
  refine dz adi ?_
  clear HE HR KS PUT
  go_wp2
  refine bodyPost_ret (v:=.agg (jy x ep en rn p)) (by simp[results,Tryz.results47,go_sem,z0,z1,z2,z3,z4,z5,z6,z7,z8,z9,jy]) rfl ?_
  exact⟨rfl,SV.out.2⟩
end Go.Proofs.YtpifdeoepppadaaGreatDoor

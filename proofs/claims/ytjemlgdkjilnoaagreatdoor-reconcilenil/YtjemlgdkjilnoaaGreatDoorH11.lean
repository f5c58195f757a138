/- Texts of one layer, one behind the other. -/
import Derived.Test.YtjemlgdkjilnoaaGreatDoorH8
import Derived.Test.YtjemlgdkjilnoaaGreatDoorH10
import Derived.Test.YtjemlgdkjilnoaaGreatDoorH7
import Derived.Deep.RegionWith
set_option maxRecDepth 100000
set_option maxHeartbeats 8000000
namespace Go.Proofs.YtjemlgdkjilnoaaGreatDoor
open Go.RowKit
set_option linter.unusedVariables false
theorem Tryz.as4:(Tryz.prog.info? 72).map (fun i=>(i.zero,i.size,i.bytes))=some (some (.agg #[.int .i64 0,.int .i64 0,.slice none 0 0]),3,40):=by kernel_rfl
def SwB (x:Sw) (g:Nat):Prop:=x.v.ownBlock=some g∨∃c∈x.rs,c.v.ownBlock=some g
structure jP (b:Nat) (w:World) (v:Value) (l:List Sw):Prop where
 r:bD 72 b w v (yZ l)
 o:∀x∈l,gN b w x.v x.rs
 i:∀x∈l,In64 x.e∧In64 x.f
 ap:∀(i j:Nat) (x y:Sw),i<j→l[i]? =some x→l[j]? =some y→∀g,SwB x g→¬SwB y g
theorem jP.nil (b:Nat)(w:World):jP b w (.slice none 0 0) []:=⟨bD.nil _ _ _,fun x hx=>by simp at hx,fun x hx=>by simp at hx,fun i j x y _ h=>by simp at h⟩
theorem jP.below {b:Nat}{w w':World}{v:Value}{l:List Sw}(h:jP b w v l)(hb:Below w.heap.size w w'):jP b w' v l:=⟨h.r.below hb,fun x hx=>(h.o x hx).below hb,h.i,h.ap⟩
theorem gN.isC {b:Nat}{w:World}{v:Value}{cs:List Cw}(h:gN b w v cs):dJ w v cs:=⟨h.c.row,fun c hc=>⟨(h.o c hc).is,h.i c hc⟩⟩
theorem jP.is {b:Nat}{w:World}{v:Value}{l:List Sw}(h:jP b w v l):oO w v l:=⟨h.r.row,fun x hx=>⟨(h.o x hx).isC,h.i x hx⟩⟩
theorem gN.lt {b:Nat}{w:World}{x:Sw}(h:gN b w x.v x.rs):∀g,SwB x g→b≤g∧g<w.heap.size:=by
 rintro g (hg|⟨c,hc,hg⟩)
 ·exact World.ownsRow.lt h.c g hg
 ·exact World.ownsRow.lt (h.o c hc) g hg
theorem gN.iN {b e':Nat}{w w':World}{v:Value}{cs:List Cw}(h:gN b w v cs)(k:bK e' w w')(n1:65≠e')(n2:92≠e'):gN b w' v cs:=⟨rq h.c k n1,fun c hc=>rq (h.o c hc) k n2,h.i,h.ap,h.f⟩
theorem amZ (l:List Sw)(x:Sw):yZ (l++[x])=yZ l++[x.c]:=by simp[yZ]
theorem qG (l:List Sw)(x:Sw):iO (l++[x])=iO l++[x.s]:=by simp[iO]
theorem jP.awZ {b:Nat}{w w6:World}{v:Value}{l:List Sw}(h:jP b w v l)(hbw:b≤w.heap.size)(hb:Below w.heap.size w w6)(x:Sw)(hx:gN w.heap.size w6 x.v x.rs)(hi:In64 x.e∧In64 x.f)(hl:l.length≤1000000000):
  ∃V,w6.alloc (.cells #[.int .i64 x.e,.int .i64 x.f,x.v] 72)=V∧Below w6.heap.size w6 V∧V.heap.size=w6.heap.size+1∧∀ty,∃v2 w2,(Builtin.append_ #[76,76] ty #[v,.slice (some ⟨w6.heap.size,0,none⟩) 1 1]).run Tryz.prog V=.ok v2 w2∧jP b w2 v2 (l++[x])∧(Below b w6 w2∧V.grownBy w2 v.ownBlock)∧∃a n k,v2=.slice a n k:=by
 obtain⟨V,hV,kg,bu,jH⟩:=kC 72 w6 #[.int .i64 x.e,.int .i64 x.f,x.v] 1 [x.c] rfl rfl (by simp[maxLen])
 have lV:=hb.size
 have vZ:Below w.heap.size w V:=hb.trans (bu.mono lV)
 refine⟨V,hV,bu,kg,fun ty=>?_⟩
 have hV':=h.below vZ
 have hxV:=hx.below bu
 have hone:x.v.oneCell'=true:=by
  obtain⟨a,k,e,_⟩:=hx.c.row.shape
  rw[e];rfl
 obtain⟨v2,w2,hr,aT,il,at2⟩:=jX (P:=Tryz.prog) (w:=V) 76 ty 72 b Tryz.underlying76 Tryz.as4 v (yZ l) hV'.r _ [x.c] jH.row (fun d hd=>by rw[List.mem_singleton.1 hd];exact hone) (by rw[yg];simp;omega) (by omega)
 have kp:=bK.wU hV'.r il
 refine⟨v2,w2,hr,⟨by rw[amZ];exact aT,fun y hy=>?_,fun y hy=>?_,fun i j y z hij hi hj g hg hz=>?_⟩,⟨(bu.mono (by omega)).grown il (by omega) fun g hg=>(World.ownsRow.lt hV'.r g hg).1,il⟩,?_⟩
 ·rcases List.mem_append.1 hy with hy|hy
  ·exact(hV'.o y hy).iN kp (by decide) (by decide)
  ·rw[List.mem_singleton.1 hy]
   exact(hxV.bB hbw).iN kp (by decide) (by decide)
 ·rcases List.mem_append.1 hy with hy|hy
  ·exact h.i y hy
  ·rw[List.mem_singleton.1 hy];exact hi
 ·have hjl:=(List.getElem?_eq_some_iff.1 hj).1
  rw[List.length_append,List.length_singleton]at hjl
  have hi':i<l.length:=by omega
  rw[List.getElem?_append_left hi']at hi
  by_cases axJ:j<l.length
  ·rw[List.getElem?_append_left axJ]at hj
   exact h.ap i j y z hij hi hj g hg hz
  ·rw[List.getElem?_append_right (by omega),show j-l.length=0 by omega,List.getElem?_cons_zero]at hj
   cases hj
   have h1:=((h.o y (List.mem_of_getElem? hi)).lt g hg).2
   have h2:=(hx.lt g hz).1
   omega
 ·obtain⟨a1,k1,h1,_⟩:=aT.row.shape
  exact⟨a1,_,k1,h1⟩
def ScO (w:World) (bs:List Int) (E:Ending) (w':World):Prop:=
 ∃(v:Value) (l:List Sw) (n:Nat),E=.returned (.tuple #[v,.int .i64 n])∧Hid (jP w.heap.size w' v l∧yD l∧n=(Orp.secs (iO l)).length∧Orp.Sn 0 bs (iO l)∧Below w.heap.size w w')
structure xh (w wr:World) (bs:List Int) (a:Nat) (v:Value) (l:List Sw):Prop where
 own:jP w.heap.size wr v l
 fit:yD l
 ris:Orp.Ris 0 (iO l)
 pre:Orp.secs (iO l)<+:bs
 at':a=(Orp.secs (iO l)).length
 aG:Below w.heap.size w wr
theorem xh.len {w wr:World}{bs:List Int}{a:Nat}{v:Value}{l:List Sw}(h:xh w wr bs a v l):l.length≤a:=by
 have:=Orp.afE (iO l)
 rw[xZ]at this
 rw[h.at'];exact this
theorem xh.no {w wr:World}{bs:List Int}{a:Nat}{v:Value}{l:List Sw}(h:xh w wr bs a v l)(hn:Orp.No (bs.drop a)):Orp.Sn 0 bs (iO l):=⟨h.ris,h.pre,fun t ht hp=>by
 rw[←h.at']at hp
 exact hn t ht.1 hp⟩
theorem xh.low {w wr:World}{bs:List Int}{a:Nat}{v:Value}{l:List Sw}(h:xh w wr bs a v l){x:Sw}{n:Nat}(hr:Orp.Rd (bs.drop a) x.s n true)(hle:x.e≤Orp.jT 0 (iO l)):Orp.Sn 0 bs (iO l):=⟨h.ris,h.pre,fun t ht hp=>by
 rw[←h.at']at hp
 rcases hr with⟨_,h1,h2,_⟩|⟨h1,_⟩
 ·have e:=Orp.aci ht.1 h1 hp h2
  have:=ht.2.1
  rw[e]at this
  have:Orp.jT 0 (iO l)<x.e:=this
  omega
 ·simp at h1⟩
theorem tF {l:List Sw}{k:Nat}{x:Sw}(h:l[k]? =some x)(hk:k+1=l.length)(a:Int):Orp.jT a (iO l)=x.e:=by
 have e:l=l.take k++[x]:=by
  obtain⟨hlt,e⟩:=List.getElem?_eq_some_iff.1 h
  have:l.take (k+1)=l:=List.take_of_length_le (by omega)
  rw[List.take_succ_eq_append_getElem hlt,e]at this
  exact this.symm
 rw[e,qG,Orp.j6]
 rfl
theorem xh.next {w wr wx:World}{bs:List Int}{a:Nat}{v v2:Value}{l:List Sw}(h:xh w wr bs a v l){x:Sw}{n:Nat}(hr:Orp.Rd (bs.drop a) x.s n true)(hgt:Orp.jT 0 (iO l)<x.e)(hf:dV x.rs)(ho:jP w.heap.size wx v2 (l++[x]))(hb:Below w.heap.size w wx):xh w wx bs (a+n) v2 (l++[x])∧1≤n:=by
 rcases hr with⟨_,h1,h2,h3⟩|⟨h1,_⟩
 ·have hz:=Orp.aQ h1
  have hln:x.rs.length≤1048576:=by
   have:=hz.2.2.2.2.2.1
   rw[show x.s.cs=az x.rs from rfl,iM]at this
   exact this
  have hp:=Orp.xX x.s
  refine⟨⟨ho,fun y hy=>?_,?_,?_,?_,hb⟩,by omega⟩
  ·rcases List.mem_append.1 hy with hy|hy
   ·exact h.fit y hy
   ·rw[List.mem_singleton.1 hy];exact⟨hf,by omega⟩
  ·rw[qG,Orp.yL]
   exact⟨h.ris,h1,hgt,trivial⟩
  ·rw[qG,Orp.lD,Orp.qp,Bm.bq]
   rw[h.at']at h2
   exact⟨h.pre,h2⟩
  ·rw[qG,Orp.lD,Orp.qp,List.length_append,←h.at',h3]
 ·simp at h1
structure MdP (w wr:World) (bs:List Int) (x y m a:Nat) (v:Value) (cs:List Cw):Prop where
 blk:wr.heap[w.heap.size]? =some (.cells #[.int .i64 x,.int .i64 y,v] 72 (0,0))
 sh:gN (w.heap.size+1) wr v cs
 aG:Below w.heap.size w wr
 hh:Fm.cB (Vm.enc x++(Vm.enc y++Vm.enc m))<+:bs
 hl:Wl.aR (az cs)<+:bs.drop (Fm.cB (Vm.enc x++(Vm.enc y++Vm.enc m))).length
 hc:∀c∈az cs,Cm.chk c.e c.n c.l=0
 at':a=(Fm.cB (Vm.enc x++(Vm.enc y++Vm.enc m))).length+(Wl.aR (az cs)).length
 len:cs.length≤m
 num:x≤1048576∧y≤1048576∧m≤1048576
theorem MdP.le {w wr:World}{bs:List Int}{x y m a:Nat}{v:Value}{cs:List Cw}(h:MdP w wr bs x y m a v cs):a≤bs.length:=by
 have h1:=h.hh.length_le
 have h2:=h.hl.length_le
 rw[List.length_drop]at h2
 rw[h.at']
 omega
theorem MdP.no {w wr:World}{bs:List Int}{x y m a:Nat}{v:Value}{cs:List Cw}(h:MdP w wr bs x y m a v cs)(hlt:cs.length<m)(hn:(∃r n e,Fm.Rd (bs.drop a) r n e∧e≠0)∨∃r n e k l g,Fm.Rd (bs.drop a) r n 0∧Cm.oK r e k l g∧g≠0):Orp.No bs:=by
 refine Orp.avC h.hh h.hl h.hc (by rw[iM];exact hlt) fun c hc hp=>?_
 rw[←h.at']at hp
 rcases hn with⟨r,n,e,hr,he⟩|⟨r,n,e,k,l,g,hr,hd,hg⟩
 ·rcases hr with⟨h1,_⟩|⟨_,_,_,hn⟩
  ·exact he h1
  ·exact hn _ (by have:=Wl.nU hc;omega) hp
 ·rcases hr with⟨_,_,_,hq⟩|⟨h1,_⟩
  ·rcases hd with⟨h1,_⟩|⟨_,_,_,_,hn⟩
   ·exact hg h1
   ·exact hn _ _ _ hc (Fm.ny hp hq)
  ·simp at h1
theorem MdP.push {w wr w6:World}{bs:List Int}{x y m a:Nat}{v:Value}{cs:List Cw}(h:MdP w wr bs x y m a v cs)(hb:Below wr.heap.size wr w6)(hlt:cs.length<m){r:List Int}{n:Nat}(hr:Fm.Rd (bs.drop a) r n 0){e k:Int}{l:List Bm.Ov}(hd:Cm.oK r e k l 0){v':Value}(ho:bz 92 wr.heap.size w6 v' l):
  ∃V,w6.alloc (.cells #[.int .i64 e,.int .i64 k,v'] 65)=V∧V.cell? ⟨w.heap.size,2,none⟩=some v∧Hid (∀ty,∃v2 w2,(Builtin.append_ #[26,26] ty #[v,.slice (some ⟨w6.heap.size,0,none⟩) 1 1]).run Tryz.prog V=.ok v2 w2∧
   ((∃U,w2.setCell ⟨w.heap.size,2,none⟩ v2=U∧MdP w U bs x y m (a+n) v2 (cs++[⟨e,k,v',l⟩]))∧w2.cell? ⟨w.heap.size,2,none⟩=some v∧w2.frozen? ⟨w.heap.size,2,none⟩=false∧∃a n k,v2=.slice a n k)):=by
 obtain⟨g1,g2,g3,g4,g5,g6⟩:=aef (v':=v') h.hl h.hc h.at' hr hd
 have hS:=ax h.blk
 obtain⟨V,hV,bu,kg,hpu⟩:=h.sh.push (by omega) hb ⟨e,k,v',l⟩ ho (arK g1) (by have:=h.num;have:=h.len;omega)
 have vZ:Below wr.heap.size wr V:=hb.trans (bu.mono hb.size)
 have hBV:=(vZ.block w.heap.size hS).trans h.blk
 refine⟨V,hV,ai hBV 2 rfl,hide fun ty=>?_⟩
 obtain⟨v2,w2,hrun,sh2,il,hsl⟩:=hpu ty
 have hvb:∀g,v.ownBlock=some g→w.heap.size+1≤g:=fun g hg=>(World.ownsRow.lt h.sh.c g hg).1
 have hB2:=(il.block w.heap.size (ax hBV) fun e=>by have:=hvb _ e.symm;omega).trans hBV
 obtain⟨U,hU,bU,gU,fU⟩:=apP hB2 2 v2
 refine⟨v2,w2,hrun,⟨⟨U,hU,?_⟩,ai hB2 2 rfl,fU,hsl⟩⟩
 have b2:Below w.heap.size w w2:=(h.aG.trans (vZ.mono h.aG.size)).grown il (by have:=vZ.size;have:=h.aG.size;omega) fun g hg=>by have:=hvb g hg;omega
 exact⟨by rw[bU];rfl,sh2.out (F:=fun g=>g=w.heap.size) (Out.aV gU fun g hg=>by simp at hg;exact hg.symm) (fun g hg=>by rw[hg];omega),aD b2 gU (Nat.le_refl _) b2.size,h.hh,g4,g5,g6,by rw[List.length_append,List.length_singleton];omega,h.num⟩
theorem ajj (vb:Value)(bs:List Int)(w:World)(hb:Is .u8 w vb bs)(hl:bs.length≤140737488355328):Calls Tryz.prog 51 #[vb] w (ave w bs):=by
 obtain⟨w1,hw1,aW,aj,jE⟩:=ak w #[.int .i64 0,.int .i64 0,.slice none 0 0] 72
 have HB:=hide hb
 have F1:=hide (oC vb bs w1 (hb.below aj) (by omega))
 obtain⟨ao,cap,hvb,_,_⟩:=hb.shape
 rw[hvb]at HB F1
 subst hvb
 have B1:=hide aj
 have R1:=hide jE
 clear hb jE aj
 go_enter Tryz.func51,Tryz.ntmps51
 go_wp2_with fail
 refine F1.out.mono ?_
 rintro E w2 ⟨vh,hs,n0,e0,rfl,lH,au,HRd⟩
 have hR2:=(au.block w.heap.size (by omega)).trans R1.out
 have B2:=hide (B1.out.trans (au.mono B1.out.size))
 obtain⟨ah,ch,vP,_,_⟩:=lH.is.shape
 clear F1 R1
 by_cases he0:e0=0
 ·subst he0
  have HF:Hid (Fm.cB hs<+:bs∧n0=(Fm.cB hs).length∧hs.length≤131072):=hide (by
   rcases HRd.out with⟨_,h1,h2,h3⟩|⟨h1,_⟩
   ·exact⟨h3,by rw[h2,Fm.jF],h1⟩
   ·simp at h1)
  have HD:=hide (apb vh hs w2 lH.is (by have:=HF.out.2.2;omega))
  rw[vP]at HD
  subst vP
  clear lH au HRd
  go_wp2_with fail
  refine HD.out.mono ?_
  rintro E w3 ⟨x,y,m,g,rfl,HX,aF⟩
  have bN:=(aF.block _ (ax hR2)).trans hR2
  have B3:=B2.out.trans (aF.mono B2.out.size)
  obtain⟨Z,hZ,bZ,gZ,⟨a0,a1,a2⟩,⟨f0,f1,f2⟩,z0,z1,z2⟩:=dP bN (.int .i64 x) (.int .i64 y) (.slice none 0 0)
  have BZ:=hide (aD B3 gZ (Nat.le_refl _) B3.size)
  have ZB:=hide bZ
  clear HD hR2 bN B3 B2 aF gZ bZ
  cases g with
  |false=>
   have NO:Hid (Orp.No bs):=hide (Orp.avf HF.out.1 (by
    rcases HX.out with⟨h1,_⟩|⟨_,h⟩
    ·simp at h1
    ·exact h))
   obtain⟨Y,hY,bY,gY,_,⟨g0,g1,g2⟩,y0,y1,y2⟩:=dP ZB.out (.int .i64 0) (.int .i64 0) (.slice none 0 0)
   have BY:=hide (aD BZ.out gY (Nat.le_refl _) BZ.out.size)
   clear ZB gY bY BZ HX HF HB
   go_wp2
   refine bodyPost_ret (v:=.tuple #[.agg #[.int .i64 0,.int .i64 0,.slice none 0 0],.int .i64 0,.bool false]) (by simp[results,Tryz.results51,go_sem,y0,y1,y2]) rfl ?_
   exact yh BY.out NO.out
  |true=>
   have MM:Hid (MdP w Z bs x y m n0 (.slice none 0 0) []):=hide (by
    rcases HX.out with⟨_,h1,h2⟩|⟨h1,_⟩
    ·exact⟨ZB.out,gN.nil _ _,BZ.out,by rw[h2];exact HF.out.1,by simp[az,Wl.aR,Fm.cat],fun c hc=>by simp[az]at hc,by rw[h2];simpa[az,Wl.aR,Fm.cat]using HF.out.2.1,Nat.zero_le _,h1⟩
    ·simp at h1)
   have hm:=MM.out.num.2.2
   have hn0:=MM.out.le
   clear ZB BZ HX HF
   go_wp2
   go_loopw [3,31] (fun av kv wr=>∃(a:Nat) (v:Value) (cs:List Cw),a≤bs.length∧cs.length≤m∧av=.int .i64 a∧kv=.int .i64 cs.length∧Hid (MdP w wr bs x y m a v cs)) (fun _ kv _=>m-(intOf kv).toNat)
   case atStart=>exact⟨n0,_,[],hn0,by simp,rfl,rfl,MM⟩
   case round=>
    clear MM z0 z1 z2
    obtain⟨a,v,cs,hle,hcl,rfl,rfl,M⟩:=hrel
    obtain⟨av,kv,hvv,_,_⟩:=M.out.sh.c.row.shape
    rw[hvv]at M
    subst hvv
    obtain⟨c0,c1,c2⟩:wr.cell? ⟨w.heap.size,0,none⟩=some (.int .i64 x)∧wr.cell? ⟨w.heap.size,1,none⟩=some (.int .i64 y)∧wr.cell? ⟨w.heap.size,2,none⟩=some (.slice av cs.length kv):=⟨ai M.out.blk 0 rfl,ai M.out.blk 1 rfl,ai M.out.blk 2 rfl⟩
    by_cases hlt:cs.length<m
    ·have hlt':(cs.length:Int)<m:=by omega
     obtain⟨vs,hsl,eH⟩:=(HB.out.below M.out.aG).gu Tryz.uY Tryz.xV a hle
     have FR:=hide (anJ vs (bs.drop a) wr eH (by rw[List.length_drop];omega))
     clear eH c0 c1 c2
     go_wp2_with fail
     refine FR.out.mono ?_
     rintro E w9 ⟨c,n,g,rfl,H9⟩
     obtain⟨ca,ck,hcv,_,_⟩:=H9.out.1.is.shape
     have gJ:=H9.out.2.1
     obtain⟨wb,hwb,amC,szb,aao,bb,k0,k1,k2⟩:=fH w9 65 (.int .i64 0) (.int .i64 0) (.slice none 0 0) (.int .i64 c.e) (.int .i64 c.n) c.v
     have uE:Below wr.heap.size wr wb:=gJ.trans (aao.mono gJ.size)
     have OB:=hide (H9.out.1.below aao)
     have tQ:=hide uE
     rw[hcv]at hwb amC k2⊢
     have qf:=hide hcv
     clear FR hsl bb aao gJ uE
     cases g with
     |false=>
      have NO:Hid (Orp.No bs):=hide (M.out.no hlt (by
       rcases H9.out.2.2 with⟨h1,_⟩|⟨_,h⟩
       ·simp at h1
       ·exact h))
      have hBb:=(tQ.out.block _ (ax M.out.blk)).trans M.out.blk
      have bwb:=M.out.aG.trans (tQ.out.mono M.out.aG.size)
      obtain⟨Y,hY,bY,gY,⟨i0,i1,i2⟩,⟨g0,g1,g2⟩,y0,y1,y2⟩:=dP hBb (.int .i64 0) (.int .i64 0) (.slice none 0 0)
      have BY:=hide (aD bwb gY (Nat.le_refl _) bwb.size)
      clear gY bY bwb hBb M H9 OB tQ szb
      go_wp2
      refine bodyPost_ret (v:=.tuple #[.agg #[.int .i64 0,.int .i64 0,.slice none 0 0],.int .i64 0,.bool false]) (by simp[results,Tryz.results51,go_sem,y0,y1,y2]) rfl ?_
      exact yh BY.out NO.out
     |true=>
      have HR:Hid (∃r,Fm.Rd (bs.drop a) r n 0∧Cm.oK r c.e c.n c.l 0):=hide (by
       rcases H9.out.2.2 with⟨_,h⟩|⟨h1,_⟩
       ·exact h
       ·simp at h1)
      obtain⟨r,hr1,hr2⟩:=HR.out
      obtain⟨V,hV,cV,XX⟩:=M.out.push tQ.out hlt hr1 hr2 OB.out
      have NN:=hide (aef (v':=c.v) M.out.hl M.out.hc M.out.at' hr1 hr2)
      have cb2:wb.cell? ⟨w.heap.size,2,none⟩=some (.slice av cs.length kv):=(tQ.out.cell (p:=⟨w.heap.size,2,none⟩) (ax M.out.blk)).trans (ai M.out.blk 2 rfl)
      have hna:=NN.out.2.2.1
      rw[qf.out]at hV
      clear NN OB HR hr1 hr2 tQ H9 M szb qf
      go_wp2_with (at_builtin;refine jD rfl (.tmp 45) (.tmp 47) 26 rfl (.slice av cs.length kv) (.slice (some ⟨wb.heap.size,0,none⟩) 1 1) rfl rfl XX.out ?_)
      rintro v8 w8 MU c8 f8 a8 n8 k8 rfl
      obtain⟨U,hU⟩:∃U,w8.setCell ⟨w.heap.size,2,none⟩ (.slice a8 n8 k8)=U:=⟨_,rfl⟩
      rw[hU]at MU
      have MU2:=hide MU
      have HL2:Hid (∀d:Cw,(cs++[d]).length=cs.length+1):=hide fun d=>by simp
      clear MU XX
      go_wp2
      go_roundw
      case rel=>exact⟨a+n,_,_,by omega,by rw[HL2.out];omega,by go_num,by rw[HL2.out];go_num,MU2⟩
      case measure=>simp[intOf];omega
    ·have hlt':¬(cs.length:Int)<m:=by omega
     have hlm:cs.length=m:=by omega
     have hcl:(az cs).length=m:=by rw[iM];exact hlm
     obtain⟨ck,hck⟩:∃z,Orp.chk ⟨x,y,az cs⟩=z:=⟨_,rfl⟩
     have RDX:Hid ((ck=0→Orp.Rd bs ⟨x,y,az cs⟩ a true)∧(ck≠0→Orp.No bs)):=hide (by
      have h1:=M.out.hh
      have h2:=M.out.hl
      have h3:=M.out.at'
      rw[←hcl]at h1 h2 h3
      refine⟨fun h0=>?_,fun h0=>Orp.au2 h1 h2 M.out.hc (by rw[hck];exact h0)⟩
      obtain⟨k1,k2⟩:=Orp.avi h1 h2
      exact .inl ⟨rfl,by rw[hck];exact h0,k1,by rw[k2];exact h3⟩)
     have IX:Hid (In64 (x:Int)∧In64 (y:Int)):=hide ⟨⟨by omega,by have:=M.out.num;omega⟩,⟨by omega,by have:=M.out.num;omega⟩⟩
     have CK:=hide (wY x y (.slice av cs.length kv) cs wr M.out.sh.isC M.out.sh.f (by omega))
     unfold bT at CK
     rw[hck]at CK
     clear hck hcl hlm HB
     go_wp2_with fail
     refine CK.out.mono ?_
     rintro E w9 ⟨rfl,gJ⟩
     have hB9:=(gJ.block _ (ax M.out.blk)).trans M.out.blk
     have sh9:=M.out.sh.below gJ
     have b9:=M.out.aG.trans (gJ.mono M.out.aG.size)
     by_cases h0:ck=0
     ·subst h0
      obtain⟨⟨s0,s1,s2⟩,⟨f0,f1,f2⟩,z0,z1,z2⟩:=p9 w9 hB9
      have RD0:=hide (RDX.out.1 rfl)
      have SH:=hide (sh9.bB (b':=w.heap.size) (by omega))
      have BB:=hide b9
      clear hB9 sh9 b9 gJ CK M c0 c1 c2
      go_wp2
      refine bodyPost_ret (v:=.tuple #[.agg #[.int .i64 x,.int .i64 y,.slice av cs.length kv],.int .i64 a,.bool true]) (by simp[results,Tryz.results51,go_sem,z0,z1,z2]) rfl ?_
      exact⟨⟨x,y,.slice av cs.length kv,cs⟩,a,true,rfl,hide ⟨SH.out,IX.out.1,IX.out.2,RD0.out,BB.out⟩⟩
     ·have hne:(ck !=0)=true:=by simp[h0]
      have NO:=hide (RDX.out.2 h0)
      obtain⟨Y,hY,bY,gY,⟨i0,i1,i2⟩,⟨g0,g1,g2⟩,y0,y1,y2⟩:=dP hB9 (.int .i64 0) (.int .i64 0) (.slice none 0 0)
      have BY:=hide (aD b9 gY (Nat.le_refl _) b9.size)
      clear gY bY b9 hB9 M sh9 gJ CK h0 c0 c1 c2
      go_wp2
      refine bodyPost_ret (v:=.tuple #[.agg #[.int .i64 0,.int .i64 0,.slice none 0 0],.int .i64 0,.bool false]) (by simp[results,Tryz.results51,go_sem,y0,y1,y2]) rfl ?_
      exact yh BY.out NO.out
 ·have heb:(e0 !=0)=true:=by simp[he0]
  have NO:Hid (Orp.No bs):=hide (Orp.avk (by
   rcases HRd.out with⟨h1,_⟩|⟨_,_,_,h⟩
   ·exact absurd h1 he0
   ·exact h))
  obtain⟨⟨s0,s1,s2⟩,⟨f0,f1,f2⟩,z0,z1,z2⟩:=p9 w2 hR2
  subst vP
  clear HRd lH au hR2
  go_wp2
  refine bodyPost_ret (v:=.tuple #[.agg #[.int .i64 0,.int .i64 0,.slice none 0 0],.int .i64 0,.bool false]) (by simp[results,Tryz.results51,go_sem,z0,z1,z2]) rfl ?_
  exact yh B2.out NO.out
theorem wO {w w':World}{R:Nat}{cs:Array Value}{t:TypeId}{fr:Nat×Nat}(hR:w.heap[R]? =some (.cells cs t fr))(hg:w.grownBy w' (some R)):bK t w w':=by
 intro g cs' t' fr' hc ht
 refine(hg.block g (ax hc) fun e1=>?_).trans hc
 have e2:=Option.some.inj e1
 subst e2
 rw[hR]at hc
 simp at hc
 exact ht hc.2.1.symm
structure Cpd (w wr:World) (e f:Int) (g m cap:Nat) (rest:List Cw) (k:Nat) (rk:List Cw):Prop where
 fs:zz w wr g m cap rest k rk
 sb:wr.heap[w.heap.size]? =some (.cells #[.int .i64 e,.int .i64 f,.slice (some ⟨g,0,none⟩) m cap] 72 (0,0))
 rb:wr.heap[w.heap.size+1]? =some (.cells #[.int .i64 0,.int .i64 0,.slice none 0 0] 72 (0,0))
 gt:w.heap.size+1<g
theorem ah0 (e f:Int)(v:Value)(rs:List Cw)(w:World)(h:dJ w v rs)(hf:dV rs)(h0:0<rs.length)(hl:rs.length≤1048576):
  Calls Tryz.prog 52 #[.agg #[.int .i64 e,.int .i64 f,v]] w fun E w'=>∃v' cs,E=.returned (.agg #[.int .i64 e,.int .i64 f,v'])∧Hid (gN w.heap.size w' v' cs∧az cs=az rs∧Below w.heap.size w w')∧∃a n k,v'=.slice a n k:=by
 obtain⟨w1,hw1,aW,aj,hB⟩:=ak w #[.int .i64 e,.int .i64 f,v] 72
 obtain⟨w2,hw2,di,au,hR⟩:=ak w1 #[.int .i64 0,.int .i64 0,.slice none 0 0] 72
 rw[aW]at hR
 have hB2:=(au.block w.heap.size (by omega)).trans hB
 have aO:Below w.heap.size w w2:=aj.trans (au.mono (by omega))
 obtain⟨m,hm⟩:∃m,rs.length=m:=⟨_,rfl⟩
 have h2:=h.below aO
 have sJ:Hid (Calls Tryz.prog 103 #[v] w2 fun E w3=>∃g cap,E=.returned (.slice (some ⟨g,0,none⟩) m cap)∧(∃X,w3.setCell ⟨w.heap.size,2,none⟩ (.slice (some ⟨g,0,none⟩) m cap)=X∧Hid (Cpd w X e f g m cap rs 0 rs))∧m≤cap∧w3.cell? ⟨w.heap.size,2,none⟩=some v∧w3.frozen? ⟨w.heap.size,2,none⟩=false):=hide (by
  refine(aaQ v rs w2 h2.1 (fun c hc=>(h2.2 c hc).1.one) hl).mono ?_
  rintro E w3 ⟨v3,rfl,own,aG⟩
  have hB3:=(aG.block w.heap.size (by omega)).trans hB2
  have bN:=(aG.block (w.heap.size+1) (by omega)).trans hR
  rcases own.2 with⟨_,hz⟩|⟨g,cap,cur,hvv,hgb,_,hc,_⟩
  ·omega
  ·rw[hm]at hvv
   obtain⟨X,hX,bX,gX,q2,q3⟩:=sK hB3 (.slice (some ⟨g,0,none⟩) m cap)
   have hg:w2.heap.size≤g:=(World.ownsRow.lt own g (by rw[hvv];rfl)).1
   have oX:bD 65 w.heap.size X v3 rs:=dm (ma own (by omega)) fun i hi=>by
    have h1:=World.ownsRow.lt own i hi
    exact gX.block i h1.2 (by simp;omega)
   rw[hvv]at oX
   refine⟨g,cap,by rw[hvv],⟨X,hX,hide ⟨⟨oX,hm,rfl,fun c hc=>by simp at hc,rfl,fun i j c d _ hc=>by simp at hc,aD (aO.trans (aG.mono aO.size)) gX (Nat.le_refl _) (by have:=aG.size;omega)⟩,bX,(gX.block _ (ax bN) (by simp)).trans bN,by omega⟩⟩,by omega,q2,q3⟩)
 have apa:Hid (∀W,Below w.heap.size w W→∀c∈rs,df W c.v c.l∧c.l.length*40≤140737488351232):=hide fun W hb c hc=>⟨((h.2 c hc).1).below hb,(hf c hc).2⟩
 have FIN:Hid (∀W g cap rk,zz w W g m cap rs m rk→gN w.heap.size W (.slice (some ⟨g,0,none⟩) m cap) rk∧az rk=az rs):=hide fun W g cap rk hF=>by
  have ht:rk.take m=rk:=List.take_of_length_le (by rw[hF.len];omega)
  have h1:=hF.kN
  have h2:=hF.ap
  rw[ht]at h1 h2
  have q:∀c∈rk,∃d∈rs,c.c=d.c:=fun c hc=>by
   have:c.c∈az rk:=by unfold az;exact List.mem_map.2 ⟨c,hc,rfl⟩
   rw[hF.is]at this
   unfold az at this
   obtain⟨d,hd,e⟩:=List.mem_map.1 this
   exact⟨d,hd,e.symm⟩
  refine⟨⟨hF.row,h1,fun c hc=>?_,h2,fun c hc=>?_⟩,hF.is⟩
  ·obtain⟨d,hd,e⟩:=q c hc
   have e1:c.e=d.e:=congrArg Cm.Cv.e e
   have e2:c.n=d.n:=congrArg Cm.Cv.n e
   rw[e1,e2]
   exact(h.2 d hd).2
  ·obtain⟨d,hd,e⟩:=q c hc
   have e3:c.l=d.l:=congrArg Cm.Cv.l e
   have:=hf d hd
   rw[←e3]at this
   exact this
 have HRL:=hide hm
 have c2:=ai hB2 2 rfl
 simp only[List.getElem_toArray,List.getElem_cons_zero,List.getElem_cons_succ]at c2
 obtain⟨ao,ca,hv,_,_⟩:=h.1.shape
 rw[hm]at hv
 rw[hv]at hw1 sJ c2
 subst hv
 have hm0:0<m:=by omega
 have hm1:m≤1048576:=by omega
 clear h hf h2 hB hB2 hR aj au aO h0 hl hm
 go_enter Tryz.func52,Tryz.ntmps52
 go_wp2_with fail
 refine sJ.out.mono ?_
 rintro E w3 ⟨g,cap,rfl,⟨X,hX,C0⟩,hcp,q2,q3⟩
 have x2:X.cell? ⟨w.heap.size,2,none⟩=some (.slice (some ⟨g,0,none⟩) m cap):=ai C0.out.sb 2 rfl
 clear sJ
 go_wp2
 go_loopw [12] (fun iv wr=>∃(k:Nat) (rk:List Cw),k≤m∧iv=.int .i64 k∧Hid (Cpd w wr e f g m cap rs k rk)) (fun iv _=>m-(intOf iv).toNat)
 case atStart=>exact⟨0,rs,by omega,rfl,C0⟩
 case round=>
  clear C0 x2 q2 q3
  obtain⟨k,rk,hk,rfl,gF⟩:=hrel
  by_cases hlt:k<m
  ·obtain⟨c,hc⟩:∃c,rs[k]? =some c:=⟨rs[k]'(by rw[HRL.out];omega),by rw[List.getElem?_eq_getElem]⟩
   have hcm:=List.mem_of_getElem? hc
   have vL:rk[k]? =some c:=by
    have e1:(rk.drop k)[0]? =(rs.drop k)[0]? :=by rw[gF.out.fs.left]
    rw[List.getElem?_drop,List.getElem?_drop]at e1
    simpa using e1.trans (by simpa using hc)
   obtain⟨⟨d0,d1,d2⟩,_⟩:=yC gF.out.fs.row gF.out.fs.len k c vL
   obtain⟨wa,hwa,zL,sza,jK,bA,x0,x1,x2⟩:=fH wr 65 (.int .i64 0) (.int .i64 0) (.slice none 0 0) (.int .i64 c.e) (.int .i64 c.n) c.v
   obtain⟨kU,hlo⟩:=apa.out wr gF.out.fs.aG c hcm
   have s2:wa.cell? ⟨w.heap.size,2,none⟩=some (.slice (some ⟨g,0,none⟩) m cap):=ai ((jK.block _ (ax gF.out.sb)).trans gF.out.sb) 2 rfl
   have CP:Hid (Calls Tryz.prog 50 #[.agg #[.int .i64 c.e,.int .i64 c.n,c.v]] wa.drew fun E w2=>∃v2,E=.returned (.agg #[.int .i64 c.e,.int .i64 c.n,v2])∧(∃a n z,v2=.slice a n z)∧(∃W,((w2.setCell ⟨g,k*3,none⟩ (.int .i64 c.e)).setCell ⟨g,k*3+1,none⟩ (.int .i64 c.n)).setCell ⟨g,k*3+2,none⟩ v2=W∧Hid (∃rk',Cpd w W e f g m cap rs (k+1) rk'))∧(w2.cell? ⟨g,k*3,none⟩=some (.int .i64 c.e)∧w2.cell? ⟨g,k*3+1,none⟩=some (.int .i64 c.n)∧w2.cell? ⟨g,k*3+2,none⟩=some c.v)∧(w2.frozen? ⟨g,k*3,none⟩=false∧w2.frozen? ⟨g,k*3+1,none⟩=false∧w2.frozen? ⟨g,k*3+2,none⟩=false)∧w2.cell? ⟨w.heap.size,2,none⟩=some (.slice (some ⟨g,0,none⟩) m cap)):=hide (by
    have aiQ:Below wr.heap.size wr wa.drew:=jK.drew
    refine(oH c.e c.n c.v c.l wa.drew (kU.below aiQ) hlo).mono ?_
    rintro E w2 ⟨v2,rfl,aT,au⟩
    have b2:Below wr.heap.size wr w2:=aiQ.trans (au.mono aiQ.size)
    have hrow2:bD 65 w.heap.size w2 (.slice (some ⟨g,0,none⟩) m cap) rk:=gF.out.fs.row.below b2
    obtain⟨W,hW,oW,gW⟩:=aeb hrow2 gF.out.fs.len k hlt ⟨c.e,c.n,v2,c.l⟩
    obtain⟨y,z⟩:=yC hrow2 gF.out.fs.len k c vL
    have sb2:=(b2.block _ (ax gF.out.sb)).trans gF.out.sb
    have rb2:=(b2.block _ (ax gF.out.rb)).trans gF.out.rb
    have hgt:=gF.out.gt
    refine⟨v2,rfl,(by obtain⟨xa,xc,hx,_⟩:=aT.is.shape;exact⟨_,_,_,hx⟩),⟨W,hW,hide ⟨_,gF.out.fs.next hc hlt (aT.bB aiQ.size) b2 oW gW,(gW.block _ (ax sb2) (by simp;omega)).trans sb2,(gW.block _ (ax rb2) (by simp;omega)).trans rb2,hgt⟩⟩,y,z,ai sb2 2 rfl⟩)
   obtain⟨cA,cc,hcv,_,_⟩:=kU.shape
   rw[hcv]at d2 hwa zL x2 CP
   have hlt':(k:Int)<m:=by omega
   clear gF kU hlo vL jK bA hc hcm
   go_wp2_with fail
   go_region_with (go_at_call 50;refine CP.out.mono ?_;rintro E w2 ⟨v2,rfl,⟨a2,n2,z2,rfl⟩,⟨W,hW,F2⟩,⟨y0,y1,y2⟩,⟨f0,f1,f2⟩,t2⟩)
   all_goals
    clear CP
    go_wp2
    go_roundw
    case rel=>
     obtain⟨rk2,G2⟩:=F2.out
     exact⟨k+1,rk2,by omega,by go_num,hide G2⟩
    case measure=>simp[intOf];omega
  ·obtain rfl:k=m:=by omega
   have hlt':¬(k:Int)<k:=by omega
   obtain⟨t0,t1,t2⟩:wr.cell? ⟨w.heap.size,0,none⟩=some (.int .i64 e)∧wr.cell? ⟨w.heap.size,1,none⟩=some (.int .i64 f)∧wr.cell? ⟨w.heap.size,2,none⟩=some (.slice (some ⟨g,0,none⟩) k cap):=⟨ai gF.out.sb 0 rfl,ai gF.out.sb 1 rfl,ai gF.out.sb 2 rfl⟩
   obtain⟨Z,hZ,bZ,gZ,⟨a0,a1,a2⟩,⟨f0,f1,f2⟩,z0,z1,z2⟩:=dP gF.out.rb (.int .i64 e) (.int .i64 f) (.slice (some ⟨g,0,none⟩) k cap)
   have G:Hid (gN w.heap.size Z (.slice (some ⟨g,0,none⟩) k cap) rk∧az rk=az rs∧Below w.heap.size w Z):=hide (by
    obtain⟨s1,s2⟩:=FIN.out _ g cap rk gF.out.fs
    have kp:bK 72 wr Z:=wO gF.out.rb gZ
    exact⟨s1.iN kp (by decide) (by decide),s2,aD gF.out.fs.aG gZ (by omega) gF.out.fs.aG.size⟩)
   clear gF bZ gZ
   go_wp2
   refine bodyPost_ret (v:=.agg #[.int .i64 e,.int .i64 f,.slice (some ⟨g,0,none⟩) k cap]) (by simp[results,Tryz.results52,go_sem,z0,z1,z2]) rfl ?_
   exact⟨_,rfl,⟨rk,G⟩,_,_,_,rfl⟩
theorem pK (vb:Value)(bs:List Int)(w:World)(hb:Is .u8 w vb bs)(hl:bs.length≤1000000000):Calls Tryz.prog 23 #[vb] w (ScO w bs):=by
 have HB:=hide hb
 obtain⟨ao,cap,hvb,_,_⟩:=hb.shape
 rw[hvb]at HB
 subst hvb
 clear hb
 go_enter Tryz.func23,Tryz.ntmps23
 go_wp2
 go_loopw [4,5,6] (fun ov ev av wr=>∃(a:Nat) (ep:Int) (oa:Option Addr) (ok:Nat) (l:List Sw),a≤bs.length∧av=.int .i64 a∧ev=.int .i64 ep∧ov=.slice oa l.length ok∧Hid (xh w wr bs a (.slice oa l.length ok) l∧Orp.jT 0 (iO l)=ep)) (fun _ _ av _=>bs.length-(intOf av).toNat)
 case atStart=>exact⟨0,0,none,0,[],by omega,rfl,rfl,rfl,hide ⟨⟨jP.nil _ _,fun x hx=>by simp at hx,trivial,by simp[iO,Orp.secs],by simp[iO,Orp.secs],Below.refl _ _⟩,rfl⟩⟩
 case round=>
  obtain⟨a,ep,oa,ok,l,hle,rfl,rfl,rfl,M⟩:=hrel
  obtain⟨vs,hsl,eH⟩:=(HB.out.below M.out.1.aG).gu Tryz.uY Tryz.xV a hle
  have FR:=hide (ajj vs (bs.drop a) wr eH (by rw[List.length_drop];omega))
  clear eH
  go_wp2_with fail
  refine FR.out.mono ?_
  rintro E w9 ⟨x,n,g,rfl,H9⟩
  obtain⟨xa,xk,hxv,_,_⟩:=H9.out.1.c.row.shape
  have gJ:=H9.out.2.2.2.2
  obtain⟨wb,hwb,amC,szb,aao,bb,k0,k1,k2⟩:=fH w9 72 (.int .i64 0) (.int .i64 0) (.slice none 0 0) (.int .i64 x.e) (.int .i64 x.f) x.v
  have uE:Below wr.heap.size wr wb:=gJ.trans (aao.mono gJ.size)
  have HXV:=hide hxv
  have tQ:=hide uE
  have BWB:Hid (Below w.heap.size w wb):=hide (M.out.1.aG.trans (uE.mono M.out.1.aG.size))
  have SX:=hide (H9.out.1.below aao)
  have amB:=hide (M.out.1.own.below uE)
  have BLK:=hide bb
  rw[hxv]at hwb amC k2⊢
  clear FR hsl bb aao gJ uE
  cases g with
  |false=>
   have FIN:Hid (Orp.Sn 0 bs (iO l)):=hide (M.out.1.no (by
    rcases H9.out.2.2.2.1 with⟨h1,_⟩|⟨_,h⟩
    ·simp at h1
    ·exact h))
   have HAT:=hide M.out.1.at'
   have HFT:=hide M.out.1.fit
   clear M H9 SX tQ BLK
   go_wp2
   go_ret2
   exact⟨_,l,a,rfl,hide ⟨amB.out,HFT.out,HAT.out,FIN.out,BWB.out⟩⟩
  |true=>
   by_cases hle2:x.e≤ep
   ·have FIN:Hid (Orp.Sn 0 bs (iO l)):=hide (M.out.1.low H9.out.2.2.2.1 (by rw[M.out.2];exact hle2))
    have HAT:=hide M.out.1.at'
    have HFT:=hide M.out.1.fit
    clear M H9 SX tQ BLK
    go_wp2
    go_ret2
    exact⟨_,l,a,rfl,hide ⟨amB.out,HFT.out,HAT.out,FIN.out,BWB.out⟩⟩
   ·have HCZ:Hid (Orp.chk x.s=0∧1≤n∧a+n≤bs.length):=hide (by
     rcases H9.out.2.2.2.1 with⟨_,h1,h2,h3⟩|⟨h1,_⟩
     ·have h4:=Orp.xX x.s
      have h5:=h2.length_le
      rw[List.length_drop]at h5
      exact⟨h1,by omega,by omega⟩
     ·simp at h1)
    have HLN:Hid (1≤x.rs.length∧x.rs.length≤1048576):=hide (by
     obtain⟨_,_,_,_,h5,h6,_⟩:=Orp.aQ HCZ.out.1
     rw[show x.s.cs=az x.rs from rfl,iM]at h5 h6
     exact⟨h5,h6⟩)
    have CP:=hide (ah0 x.e x.f x.v x.rs wb SX.out.isC SX.out.f (by have:=HLN.out;omega) HLN.out.2)
    rw[hxv]at CP
    obtain⟨_,hn1,hn2⟩:=HCZ.out
    have LST:Hid (∀cs v,Orp.jT 0 (iO (l++[⟨x.e,x.f,v,cs⟩]))=x.e):=hide fun cs v=>by
     rw[qG,Orp.j6]
     rfl
    clear hxv
    go_wp2_with fail
    refine CP.out.mono ?_
    rintro E wc ⟨vc,cs,rfl,HC,ca,cn,ck,mQ⟩
    have rM:Below wr.heap.size wr wc:=tQ.out.trans (HC.out.2.2.mono tQ.out.size)
    obtain⟨V,hV,bu,kg,hpu⟩:=M.out.1.own.awZ M.out.1.aG.size rM ⟨x.e,x.f,vc,cs⟩ (HC.out.1.bB (b':=wr.heap.size) tQ.out.size) ⟨H9.out.2.1,H9.out.2.2.1⟩ (by have:=M.out.1.len;omega)
    have hBW:(wc.heap[w9.heap.size]?)=some (.cells #[.int .i64 x.e,.int .i64 x.f,x.v] 72 (0,0)):=(HC.out.2.2.block _ (ax BLK.out)).trans BLK.out
    have XX:Hid (∀ty,∃v2 w2,(Builtin.append_ #[76,76] ty #[.slice oa l.length ok,.slice (some ⟨wc.heap.size,0,none⟩) 1 1]).run Tryz.prog V=.ok v2 w2∧(Hid (xh w w2 bs (a+n) v2 (l++[⟨x.e,x.f,vc,cs⟩]))∧w2.cell? ⟨w9.heap.size,0,none⟩=some (.int .i64 x.e)∧∃a k,v2=.slice a (l++[(⟨x.e,x.f,vc,cs⟩:Sw)]).length k)):=hide fun ty=>by
     obtain⟨v2,w2,h1,h2,h3,h4⟩:=hpu ty
     have hs:(⟨x.e,x.f,vc,cs⟩:Sw).s=x.s:=by
      show(⟨x.e,x.f,az cs⟩:Orp.Se)=⟨x.e,x.f,az x.rs⟩
      rw[HC.out.2.1]
     have rd:=H9.out.2.2.2.1
     rw[←hs]at rd
     obtain⟨sa,sk,hsv,_,_⟩:=h2.is.shape
     refine⟨v2,w2,h1,hide (M.out.1.next (x:=⟨x.e,x.f,vc,cs⟩) rd (by rw[M.out.2];show ep<x.e;omega) HC.out.1.f h2 ((M.out.1.aG.trans (rM.mono M.out.1.aG.size)).trans h3.1)).1,?_,sa,sk,hsv⟩
     have hVW:=(bu.block _ (ax hBW)).trans hBW
     refine ai ((h3.2.block _ (ax hVW) fun e=>?_).trans hVW) 0 rfl
     have q1:=(World.ownsRow.lt M.out.1.own.r _ e.symm).2
     have q2:=H9.out.2.2.2.2.size
     omega
    subst mQ
    clear CP M H9 SX tQ BWB amB BLK HXV szb HC rM hpu bu kg hBW HCZ HLN
    go_wp2_with (at_builtin;refine jD rfl (.tmp 28) (.tmp 31) 76 rfl (.slice oa l.length ok) (.slice (some ⟨wc.heap.size,0,none⟩) 1 1) rfl rfl XX.out ?_)
    rintro v8 w8 MU t0 sa sk rfl
    have LS:=hide (LST.out cs (.slice ca cn ck))
    clear XX LST
    go_wp2
    go_roundw
    case rel=>exact⟨a+n,x.e,sa,sk,l++[⟨x.e,x.f,.slice ca cn ck,cs⟩],by omega,by go_num,rfl,by rw[List.length_append];rfl,hide ⟨by rw[List.length_append];exact MU.out,LS.out⟩⟩
    case measure=>simp[intOf];omega
end Go.Proofs.YtjemlgdkjilnoaaGreatDoor

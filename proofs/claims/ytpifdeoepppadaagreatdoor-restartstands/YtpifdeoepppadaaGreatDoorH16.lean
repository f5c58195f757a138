/- Texts of one layer, one behind the other. -/
import Derived.Test.YtpifdeoepppadaaGreatDoorH13
import Derived.Test.YtpifdeoepppadaaGreatDoorH6
import Derived.Deep.RegionWith
set_option maxRecDepth 100000
set_option maxHeartbeats 8000000
namespace Go.Proofs.YtpifdeoepppadaaGreatDoor
open Go.RowKit
set_option linter.unusedVariables false
structure MdP (w wr:World) (bs:List Int) (x y m a:Nat) (v:Value) (cs:List Cw):Prop where
 blk:wr.heap[w.heap.size]? =some (.cells #[.int .i64 x,.int .i64 y,v] 45 (0,0))
 sh:gL (w.heap.size+1) wr v cs
 aF:Below w.heap.size w wr
 hh:Fm.dh (Vm.enc x++(Vm.enc y++Vm.enc m))<+:bs
 hl:Wl.aW (aD cs)<+:bs.drop (Fm.dh (Vm.enc x++(Vm.enc y++Vm.enc m))).length
 hc:∀c∈aD cs,Cm.aJ c.e c.n c.l=0
 at':a=(Fm.dh (Vm.enc x++(Vm.enc y++Vm.enc m))).length+(Wl.aW (aD cs)).length
 len:cs.length≤m
 num:x≤1048576∧y≤1048576∧m≤1048576
theorem MdP.le {w wr:World}{bs:List Int}{x y m a:Nat}{v:Value}{cs:List Cw}(h:MdP w wr bs x y m a v cs):a≤bs.length:=by
 have h1:=h.hh.length_le
 have h2:=h.hl.length_le
 rw[List.length_drop]at h2
 rw[h.at']
 omega
theorem MdP.no {w wr:World}{bs:List Int}{x y m a:Nat}{v:Value}{cs:List Cw}(h:MdP w wr bs x y m a v cs)(hlt:cs.length<m)(hn:(∃r n e,Fm.Rd (bs.drop a) r n e∧e≠0)∨∃r n e k l g,Fm.Rd (bs.drop a) r n 0∧Cm.gH r e k l g∧g≠0):Orp.No bs:=by
 refine Orp.awu h.hh h.hl h.hc (by rw[ji];exact hlt) fun c hc hp=>?_
 rw[←h.at']at hp
 rcases hn with⟨r,n,e,hr,he⟩|⟨r,n,e,k,l,g,hr,hd,hg⟩
 ·rcases hr with⟨h1,_⟩|⟨_,_,_,hn⟩
  ·exact he h1
  ·exact hn _ (by have:=Wl.mh hc;omega) hp
 ·rcases hr with⟨_,_,_,hq⟩|⟨h1,_⟩
  ·rcases hd with⟨h1,_⟩|⟨_,_,_,_,hn⟩
   ·exact hg h1
   ·exact hn _ _ _ hc (Fm.iR hp hq)
  ·simp at h1
theorem MdP.push {w wr w6:World}{bs:List Int}{x y m a:Nat}{v:Value}{cs:List Cw}(h:MdP w wr bs x y m a v cs)(hb:Below wr.heap.size wr w6)(hlt:cs.length<m){r:List Int}{n:Nat}(hr:Fm.Rd (bs.drop a) r n 0){e k:Int}{l:List Bm.Ov}(hd:Cm.gH r e k l 0){v':Value}(ho:aV 106 wr.heap.size w6 v' l):
  ∃V,w6.alloc (.cells #[.int .i64 e,.int .i64 k,v'] 32)=V∧V.cell? ⟨w.heap.size,2,none⟩=some v∧Hid (∀ty,∃v2 w2,(Builtin.append_ #[43,43] ty #[v,.slice (some ⟨w6.heap.size,0,none⟩) 1 1]).run Tryz.prog V=.ok v2 w2∧
   ((∃U,w2.setCell ⟨w.heap.size,2,none⟩ v2=U∧MdP w U bs x y m (a+n) v2 (cs++[⟨e,k,v',l⟩]))∧w2.cell? ⟨w.heap.size,2,none⟩=some v∧w2.frozen? ⟨w.heap.size,2,none⟩=false∧∃a n k,v2=.slice a n k)):=by
 obtain⟨g1,g2,g3,g4,g5,g6⟩:=agQ (v':=v') h.hl h.hc h.at' hr hd
 have hS:=aA h.blk
 obtain⟨V,hV,bn,fE,hpu⟩:=h.sh.push (by omega) hb ⟨e,k,v',l⟩ ho (adm g1) (by have:=h.num;have:=h.len;omega)
 have qb:Below wr.heap.size wr V:=hb.trans (bn.mono hb.size)
 have tZ:=(qb.block w.heap.size hS).trans h.blk
 refine⟨V,hV,ai tZ 2 rfl,hide fun ty=>?_⟩
 obtain⟨v2,w2,hrun,sh2,gJ,hsl⟩:=hpu ty
 have hvb:∀g,v.ownBlock=some g→w.heap.size+1≤g:=fun g hg=>(World.ownsRow.lt h.sh.c g hg).1
 have hB2:=(gJ.block w.heap.size (aA tZ) fun e=>by have:=hvb _ e.symm;omega).trans tZ
 obtain⟨U,hU,bU,gU,fU⟩:=asI hB2 2 v2
 refine⟨v2,w2,hrun,⟨⟨U,hU,?_⟩,ai hB2 2 rfl,fU,hsl⟩⟩
 have b2:Below w.heap.size w w2:=(h.aF.trans (qb.mono h.aF.size)).grown gJ (by have:=qb.size;have:=h.aF.size;omega) fun g hg=>by have:=hvb g hg;omega
 exact⟨by rw[bU];rfl,sh2.out (F:=fun g=>g=w.heap.size) (Out.aT gU fun g hg=>by simp at hg;exact hg.symm) (fun g hg=>by rw[hg];omega),aK b2 gU (Nat.le_refl _) b2.size,h.hh,g4,g5,g6,by rw[List.length_append,List.length_singleton];omega,h.num⟩
theorem aj9 (vb:Value)(bs:List Int)(w:World)(hb:Is .u8 w vb bs)(hl:bs.length≤140737488355328):Calls Tryz.prog 160 #[vb] w (ay0 w bs):=by
 obtain⟨w1,hw1,bH,ax,jc⟩:=ay w #[.int .i64 0,.int .i64 0,.slice none 0 0] 45
 have HB:=hide hb
 have F1:=hide (oN vb bs w1 (hb.below ax) (by omega))
 obtain⟨ao,cap,hvb,_,_⟩:=hb.shape
 rw[hvb]at HB F1
 subst hvb
 have B1:=hide ax
 have R1:=hide jc
 clear hb jc ax
 go_enter Tryz.func160,Tryz.ntmps160
 go_wp2_with fail
 refine F1.out.mono ?_
 rintro E w2 ⟨vh,hs,n0,e0,rfl,vW,aB,HRd⟩
 have hR2:=(aB.block w.heap.size (by omega)).trans R1.out
 have B2:=hide (B1.out.trans (aB.mono B1.out.size))
 obtain⟨ah,ch,hvh,_,_⟩:=vW.is.shape
 clear F1 R1
 by_cases he0:e0=0
 ·subst he0
  have HF:Hid (Fm.dh hs<+:bs∧n0=(Fm.dh hs).length∧hs.length≤131072):=hide (by
   rcases HRd.out with⟨_,h1,h2,h3⟩|⟨h1,_⟩
   ·exact⟨h3,by rw[h2,Fm.jF],h1⟩
   ·simp at h1)
  have HD:=hide (apL vh hs w2 vW.is (by have:=HF.out.2.2;omega))
  rw[hvh]at HD
  subst hvh
  clear vW aB HRd
  go_wp2_with fail
  refine HD.out.mono ?_
  rintro E w3 ⟨x,y,m,g,rfl,HX,aH⟩
  have j6:=(aH.block _ (aA hR2)).trans hR2
  have B3:=B2.out.trans (aH.mono B2.out.size)
  obtain⟨Z,hZ,bZ,gZ,⟨a0,a1,a2⟩,⟨f0,f1,f2⟩,z0,z1,z2⟩:=dN j6 (.int .i64 x) (.int .i64 y) (.slice none 0 0)
  have BZ:=hide (aK B3 gZ (Nat.le_refl _) B3.size)
  have ZB:=hide bZ
  clear HD hR2 j6 B3 B2 aH gZ bZ
  cases g with
  |false=>
   have NO:Hid (Orp.No bs):=hide (Orp.avK HF.out.1 (by
    rcases HX.out with⟨h1,_⟩|⟨_,h⟩
    ·simp at h1
    ·exact h))
   obtain⟨Y,hY,bY,gY,_,⟨g0,g1,g2⟩,y0,y1,y2⟩:=dN ZB.out (.int .i64 0) (.int .i64 0) (.slice none 0 0)
   have BY:=hide (aK BZ.out gY (Nat.le_refl _) BZ.out.size)
   clear ZB gY bY BZ HX HF HB
   go_wp2
   refine bodyPost_ret (v:=.tuple #[.agg #[.int .i64 0,.int .i64 0,.slice none 0 0],.int .i64 0,.bool false]) (by simp[results,Tryz.results160,go_sem,y0,y1,y2]) rfl ?_
   exact zR BY.out NO.out
  |true=>
   have MM:Hid (MdP w Z bs x y m n0 (.slice none 0 0) []):=hide (by
    rcases HX.out with⟨_,h1,h2⟩|⟨h1,_⟩
    ·exact⟨ZB.out,gL.nil _ _,BZ.out,by rw[h2];exact HF.out.1,by simp[aD,Wl.aW,Fm.cat],fun c hc=>by simp[aD]at hc,by rw[h2];simpa[aD,Wl.aW,Fm.cat]using HF.out.2.1,Nat.zero_le _,h1⟩
    ·simp at h1)
   have hm:=MM.out.num.2.2
   have hn0:=MM.out.le
   clear ZB BZ HX HF
   go_wp2
   go_loopw [3,31] (fun av kv wr=>∃(a:Nat) (v:Value) (cs:List Cw),a≤bs.length∧cs.length≤m∧av=.int .i64 a∧kv=.int .i64 cs.length∧Hid (MdP w wr bs x y m a v cs)) (fun _ kv _=>m-(intOf kv).toNat)
   case atStart=>exact⟨n0,_,[],hn0,by simp,rfl,rfl,MM⟩
   case round=>
    clear MM z0 z1 z2
    obtain⟨a,v,cs,hle,hcl,rfl,rfl,M⟩:=hrel
    obtain⟨av,kv,hvv,_,_⟩:=M.out.sh.c.row.shape
    rw[hvv]at M
    subst hvv
    obtain⟨c0,c1,c2⟩:wr.cell? ⟨w.heap.size,0,none⟩=some (.int .i64 x)∧wr.cell? ⟨w.heap.size,1,none⟩=some (.int .i64 y)∧wr.cell? ⟨w.heap.size,2,none⟩=some (.slice av cs.length kv):=⟨ai M.out.blk 0 rfl,ai M.out.blk 1 rfl,ai M.out.blk 2 rfl⟩
    by_cases hlt:cs.length<m
    ·have hlt':(cs.length:Int)<m:=by omega
     obtain⟨vs,hsl,dC⟩:=(HB.out.below M.out.aF).dP Tryz.jY Tryz.lH a hle
     have FR:=hide (aom vs (bs.drop a) wr dC (by rw[List.length_drop];omega))
     clear dC c0 c1 c2
     go_wp2_with fail
     refine FR.out.mono ?_
     rintro E w9 ⟨c,n,g,rfl,H9⟩
     obtain⟨ca,ck,hcv,_,_⟩:=H9.out.1.is.shape
     have iU:=H9.out.2.1
     obtain⟨wb,hwb,aqC,szb,qQ,bb,k0,k1,k2⟩:=dO w9 32 (.int .i64 0) (.int .i64 0) (.slice none 0 0) (.int .i64 c.e) (.int .i64 c.n) c.v
     have wJ:Below wr.heap.size wr wb:=iU.trans (qQ.mono iU.size)
     have OB:=hide (H9.out.1.below qQ)
     have uV:=hide wJ
     rw[hcv]at hwb aqC k2⊢
     have nz:=hide hcv
     clear FR hsl bb qQ iU wJ
     cases g with
     |false=>
      have NO:Hid (Orp.No bs):=hide (M.out.no hlt (by
       rcases H9.out.2.2 with⟨h1,_⟩|⟨_,h⟩
       ·simp at h1
       ·exact h))
      have hBb:=(uV.out.block _ (aA M.out.blk)).trans M.out.blk
      have bwb:=M.out.aF.trans (uV.out.mono M.out.aF.size)
      obtain⟨Y,hY,bY,gY,⟨i0,i1,i2⟩,⟨g0,g1,g2⟩,y0,y1,y2⟩:=dN hBb (.int .i64 0) (.int .i64 0) (.slice none 0 0)
      have BY:=hide (aK bwb gY (Nat.le_refl _) bwb.size)
      clear gY bY bwb hBb M H9 OB uV szb
      go_wp2
      refine bodyPost_ret (v:=.tuple #[.agg #[.int .i64 0,.int .i64 0,.slice none 0 0],.int .i64 0,.bool false]) (by simp[results,Tryz.results160,go_sem,y0,y1,y2]) rfl ?_
      exact zR BY.out NO.out
     |true=>
      have HR:Hid (∃r,Fm.Rd (bs.drop a) r n 0∧Cm.gH r c.e c.n c.l 0):=hide (by
       rcases H9.out.2.2 with⟨_,h⟩|⟨h1,_⟩
       ·exact h
       ·simp at h1)
      obtain⟨r,hr1,hr2⟩:=HR.out
      obtain⟨V,hV,cV,XX⟩:=M.out.push uV.out hlt hr1 hr2 OB.out
      have NN:=hide (agQ (v':=c.v) M.out.hl M.out.hc M.out.at' hr1 hr2)
      have cb2:wb.cell? ⟨w.heap.size,2,none⟩=some (.slice av cs.length kv):=(uV.out.cell (p:=⟨w.heap.size,2,none⟩) (aA M.out.blk)).trans (ai M.out.blk 2 rfl)
      have hna:=NN.out.2.2.1
      rw[nz.out]at hV
      clear NN OB HR hr1 hr2 uV H9 M szb nz
      go_wp2_with (at_builtin;refine jN rfl (.tmp 45) (.tmp 47) 43 rfl (.slice av cs.length kv) (.slice (some ⟨wb.heap.size,0,none⟩) 1 1) rfl rfl XX.out ?_)
      rintro v8 w8 MU c8 f8 a8 n8 k8 rfl
      obtain⟨U,hU⟩:∃U,w8.setCell ⟨w.heap.size,2,none⟩ (.slice a8 n8 k8)=U:=⟨_,rfl⟩
      rw[hU]at MU
      have MU2:=hide MU
      have HL2:Hid (∀d:Cw,(cs++[d]).length=cs.length+1):=hide fun d=>by simp
      clear MU XX
      go_wp2
      go_roundw
      case rel=>exact⟨a+n,_,_,by omega,by rw[HL2.out];omega,by go_num,by rw[HL2.out];go_num,MU2⟩
      case measure=>simp[intOf];omega
    ·have hlt':¬(cs.length:Int)<m:=by omega
     have hlm:cs.length=m:=by omega
     have hcl:(aD cs).length=m:=by rw[ji];exact hlm
     obtain⟨ck,hck⟩:∃z,Orp.aJ ⟨x,y,aD cs⟩=z:=⟨_,rfl⟩
     have RDX:Hid ((ck=0→Orp.Rd bs ⟨x,y,aD cs⟩ a true)∧(ck≠0→Orp.No bs)):=hide (by
      have h1:=M.out.hh
      have h2:=M.out.hl
      have h3:=M.out.at'
      rw[←hcl]at h1 h2 h3
      refine⟨fun h0=>?_,fun h0=>Orp.ayp h1 h2 M.out.hc (by rw[hck];exact h0)⟩
      obtain⟨k1,k2⟩:=Orp.aw4 h1 h2
      exact .inl ⟨rfl,by rw[hck];exact h0,k1,by rw[k2];exact h3⟩)
     have IX:Hid (In64 (x:Int)∧In64 (y:Int)):=hide ⟨⟨by omega,by have:=M.out.num;omega⟩,⟨by omega,by have:=M.out.num;omega⟩⟩
     have CK:=hide (am8 x y (.slice av cs.length kv) cs wr M.out.sh.isC M.out.sh.f (by omega))
     unfold cZ at CK
     rw[hck]at CK
     clear hck hcl hlm HB
     go_wp2_with fail
     refine CK.out.mono ?_
     rintro E w9 ⟨rfl,iU⟩
     have hB9:=(iU.block _ (aA M.out.blk)).trans M.out.blk
     have sh9:=M.out.sh.below iU
     have b9:=M.out.aF.trans (iU.mono M.out.aF.size)
     by_cases h0:ck=0
     ·subst h0
      obtain⟨⟨s0,s1,s2⟩,⟨f0,f1,f2⟩,z0,z1,z2⟩:=rH w9 hB9
      have RD0:=hide (RDX.out.1 rfl)
      have SH:=hide (sh9.bz (b':=w.heap.size) (by omega))
      have BB:=hide b9
      clear hB9 sh9 b9 iU CK M c0 c1 c2
      go_wp2
      refine bodyPost_ret (v:=.tuple #[.agg #[.int .i64 x,.int .i64 y,.slice av cs.length kv],.int .i64 a,.bool true]) (by simp[results,Tryz.results160,go_sem,z0,z1,z2]) rfl ?_
      exact⟨⟨x,y,.slice av cs.length kv,cs⟩,a,true,rfl,hide ⟨SH.out,IX.out.1,IX.out.2,RD0.out,BB.out⟩⟩
     ·have hne:(ck !=0)=true:=by simp[h0]
      have NO:=hide (RDX.out.2 h0)
      obtain⟨Y,hY,bY,gY,⟨i0,i1,i2⟩,⟨g0,g1,g2⟩,y0,y1,y2⟩:=dN hB9 (.int .i64 0) (.int .i64 0) (.slice none 0 0)
      have BY:=hide (aK b9 gY (Nat.le_refl _) b9.size)
      clear gY bY b9 hB9 M sh9 iU CK h0 c0 c1 c2
      go_wp2
      refine bodyPost_ret (v:=.tuple #[.agg #[.int .i64 0,.int .i64 0,.slice none 0 0],.int .i64 0,.bool false]) (by simp[results,Tryz.results160,go_sem,y0,y1,y2]) rfl ?_
      exact zR BY.out NO.out
 ·have heb:(e0 !=0)=true:=by simp[he0]
  have NO:Hid (Orp.No bs):=hide (Orp.avP (by
   rcases HRd.out with⟨h1,_⟩|⟨_,_,_,h⟩
   ·exact absurd h1 he0
   ·exact h))
  obtain⟨⟨s0,s1,s2⟩,⟨f0,f1,f2⟩,z0,z1,z2⟩:=rH w2 hR2
  subst hvh
  clear HRd vW aB hR2
  go_wp2
  refine bodyPost_ret (v:=.tuple #[.agg #[.int .i64 0,.int .i64 0,.slice none 0 0],.int .i64 0,.bool false]) (by simp[results,Tryz.results160,go_sem,z0,z1,z2]) rfl ?_
  exact zR B2.out NO.out
theorem yC {w w':World}{R:Nat}{cs:Array Value}{t:TypeId}{fr:Nat×Nat}(hR:w.heap[R]? =some (.cells cs t fr))(hg:w.grownBy w' (some R)):bK t w w':=by
 intro g cs' t' fr' hc ht
 refine(hg.block g (aA hc) fun e1=>?_).trans hc
 have e2:=Option.some.inj e1
 subst e2
 rw[hR]at hc
 simp at hc
 exact ht hc.2.1.symm
structure Cpd (w wr:World) (e f:Int) (g m cap:Nat) (rest:List Cw) (k:Nat) (rk:List Cw):Prop where
 fs:Fst w wr g m cap rest k rk
 sb:wr.heap[w.heap.size]? =some (.cells #[.int .i64 e,.int .i64 f,.slice (some ⟨g,0,none⟩) m cap] 45 (0,0))
 rb:wr.heap[w.heap.size+1]? =some (.cells #[.int .i64 0,.int .i64 0,.slice none 0 0] 45 (0,0))
 gt:w.heap.size+1<g
theorem ak7 (e f:Int)(v:Value)(rs:List Cw)(w:World)(h:fJ w v rs)(hf:fF rs)(h0:0<rs.length)(hl:rs.length≤1048576):
  Calls Tryz.prog 161 #[.agg #[.int .i64 e,.int .i64 f,v]] w fun E w'=>∃v' cs,E=.returned (.agg #[.int .i64 e,.int .i64 f,v'])∧Hid (gL w.heap.size w' v' cs∧aD cs=aD rs∧Below w.heap.size w w')∧∃a n k,v'=.slice a n k:=by
 obtain⟨w1,hw1,bH,ax,hB⟩:=ay w #[.int .i64 e,.int .i64 f,v] 45
 obtain⟨w2,hw2,fA,aB,hR⟩:=ay w1 #[.int .i64 0,.int .i64 0,.slice none 0 0] 45
 rw[bH]at hR
 have hB2:=(aB.block w.heap.size (by omega)).trans hB
 have aY:Below w.heap.size w w2:=ax.trans (aB.mono (by omega))
 obtain⟨m,hm⟩:∃m,rs.length=m:=⟨_,rfl⟩
 have h2:=h.below aY
 have l7:Hid (Calls Tryz.prog 144 #[v] w2 fun E w3=>∃g cap,E=.returned (.slice (some ⟨g,0,none⟩) m cap)∧(∃X,w3.setCell ⟨w.heap.size,2,none⟩ (.slice (some ⟨g,0,none⟩) m cap)=X∧Hid (Cpd w X e f g m cap rs 0 rs))∧m≤cap∧w3.cell? ⟨w.heap.size,2,none⟩=some v∧w3.frozen? ⟨w.heap.size,2,none⟩=false):=hide (by
  refine(abu v rs w2 h2.1 (fun c hc=>(h2.2 c hc).1.one) hl).mono ?_
  rintro E w3 ⟨v3,rfl,own,aF⟩
  have hB3:=(aF.block w.heap.size (by omega)).trans hB2
  have j6:=(aF.block (w.heap.size+1) (by omega)).trans hR
  rcases own.2 with⟨_,hz⟩|⟨g,cap,cur,hvv,hgb,_,hc,_⟩
  ·omega
  ·rw[hm]at hvv
   obtain⟨X,hX,bX,gX,q2,q3⟩:=uK hB3 (.slice (some ⟨g,0,none⟩) m cap)
   have hg:w2.heap.size≤g:=(World.ownsRow.lt own g (by rw[hvv];rfl)).1
   have oX:bG 32 w.heap.size X v3 rs:=dE (kT own (by omega)) fun i hi=>by
    have h1:=World.ownsRow.lt own i hi
    exact gX.block i h1.2 (by simp;omega)
   rw[hvv]at oX
   refine⟨g,cap,by rw[hvv],⟨X,hX,hide ⟨⟨oX,hm,rfl,fun c hc=>by simp at hc,rfl,fun i j c d _ hc=>by simp at hc,aK (aY.trans (aF.mono aY.size)) gX (Nat.le_refl _) (by have:=aF.size;omega)⟩,bX,(gX.block _ (aA j6) (by simp)).trans j6,by omega⟩⟩,by omega,q2,q3⟩)
 have ahq:Hid (∀W,Below w.heap.size w W→∀c∈rs,dm W c.v c.l∧c.l.length*40≤140737488351232):=hide fun W hb c hc=>⟨((h.2 c hc).1).below hb,(hf c hc).2⟩
 have FIN:Hid (∀W g cap rk,Fst w W g m cap rs m rk→gL w.heap.size W (.slice (some ⟨g,0,none⟩) m cap) rk∧aD rk=aD rs):=hide fun W g cap rk hF=>by
  have ht:rk.take m=rk:=List.take_of_length_le (by rw[hF.len];omega)
  have h1:=hF.gT
  have h2:=hF.ap
  rw[ht]at h1 h2
  have q:∀c∈rk,∃d∈rs,c.c=d.c:=fun c hc=>by
   have:c.c∈aD rk:=by unfold aD;exact List.mem_map.2 ⟨c,hc,rfl⟩
   rw[hF.is]at this
   unfold aD at this
   obtain⟨d,hd,e⟩:=List.mem_map.1 this
   exact⟨d,hd,e.symm⟩
  refine⟨⟨hF.row,h1,fun c hc=>?_,h2,fun c hc=>?_⟩,hF.is⟩
  ·obtain⟨d,hd,e⟩:=q c hc
   have e1:c.e=d.e:=congrArg Cm.Cv.e e
   have e2:c.n=d.n:=congrArg Cm.Cv.n e
   rw[e1,e2]
   exact(h.2 d hd).2
  ·obtain⟨d,hd,e⟩:=q c hc
   have e3:c.l=d.l:=congrArg Cm.Cv.l e
   have:=hf d hd
   rw[←e3]at this
   exact this
 have HRL:=hide hm
 have c2:=ai hB2 2 rfl
 simp only[List.getElem_toArray,List.getElem_cons_zero,List.getElem_cons_succ]at c2
 obtain⟨ao,ca,hv,_,_⟩:=h.1.shape
 rw[hm]at hv
 rw[hv]at hw1 l7 c2
 subst hv
 have hm0:0<m:=by omega
 have hm1:m≤1048576:=by omega
 clear h hf h2 hB hB2 hR ax aB aY h0 hl hm
 go_enter Tryz.func161,Tryz.ntmps161
 go_wp2_with fail
 refine l7.out.mono ?_
 rintro E w3 ⟨g,cap,rfl,⟨X,hX,C0⟩,hcp,q2,q3⟩
 have x2:X.cell? ⟨w.heap.size,2,none⟩=some (.slice (some ⟨g,0,none⟩) m cap):=ai C0.out.sb 2 rfl
 clear l7
 go_wp2
 go_loopw [12] (fun iv wr=>∃(k:Nat) (rk:List Cw),k≤m∧iv=.int .i64 k∧Hid (Cpd w wr e f g m cap rs k rk)) (fun iv _=>m-(intOf iv).toNat)
 case atStart=>exact⟨0,rs,by omega,rfl,C0⟩
 case round=>
  clear C0 x2 q2 q3
  obtain⟨k,rk,hk,rfl,eH⟩:=hrel
  by_cases hlt:k<m
  ·obtain⟨c,hc⟩:∃c,rs[k]? =some c:=⟨rs[k]'(by rw[HRL.out];omega),by rw[List.getElem?_eq_getElem]⟩
   have hcm:=List.mem_of_getElem? hc
   have rZ:rk[k]? =some c:=by
    have e1:(rk.drop k)[0]? =(rs.drop k)[0]? :=by rw[eH.out.fs.left]
    rw[List.getElem?_drop,List.getElem?_drop]at e1
    simpa using e1.trans (by simpa using hc)
   obtain⟨⟨d0,d1,d2⟩,_⟩:=mD eH.out.fs.row eH.out.fs.len k c rZ
   obtain⟨wa,hwa,afY,sza,jL,bA,x0,x1,x2⟩:=dO wr 32 (.int .i64 0) (.int .i64 0) (.slice none 0 0) (.int .i64 c.e) (.int .i64 c.n) c.v
   obtain⟨jo,hlo⟩:=ahq.out wr eH.out.fs.aF c hcm
   have s2:wa.cell? ⟨w.heap.size,2,none⟩=some (.slice (some ⟨g,0,none⟩) m cap):=ai ((jL.block _ (aA eH.out.sb)).trans eH.out.sb) 2 rfl
   have CP:Hid (Calls Tryz.prog 92 #[.agg #[.int .i64 c.e,.int .i64 c.n,c.v]] wa.drew fun E w2=>∃v2,E=.returned (.agg #[.int .i64 c.e,.int .i64 c.n,v2])∧(∃a n z,v2=.slice a n z)∧(∃W,((w2.setCell ⟨g,k*3,none⟩ (.int .i64 c.e)).setCell ⟨g,k*3+1,none⟩ (.int .i64 c.n)).setCell ⟨g,k*3+2,none⟩ v2=W∧Hid (∃rk',Cpd w W e f g m cap rs (k+1) rk'))∧(w2.cell? ⟨g,k*3,none⟩=some (.int .i64 c.e)∧w2.cell? ⟨g,k*3+1,none⟩=some (.int .i64 c.n)∧w2.cell? ⟨g,k*3+2,none⟩=some c.v)∧(w2.frozen? ⟨g,k*3,none⟩=false∧w2.frozen? ⟨g,k*3+1,none⟩=false∧w2.frozen? ⟨g,k*3+2,none⟩=false)∧w2.cell? ⟨w.heap.size,2,none⟩=some (.slice (some ⟨g,0,none⟩) m cap)):=hide (by
    have jP:Below wr.heap.size wr wa.drew:=jL.drew
    refine(tq c.e c.n c.v c.l wa.drew (jo.below jP) hlo).mono ?_
    rintro E w2 ⟨v2,rfl,bq,aB⟩
    have b2:Below wr.heap.size wr w2:=jP.trans (aB.mono jP.size)
    have hrow2:bG 32 w.heap.size w2 (.slice (some ⟨g,0,none⟩) m cap) rk:=eH.out.fs.row.below b2
    obtain⟨W,hW,oW,gW⟩:=vV hrow2 eH.out.fs.len k hlt ⟨c.e,c.n,v2,c.l⟩
    obtain⟨y,z⟩:=mD hrow2 eH.out.fs.len k c rZ
    have sb2:=(b2.block _ (aA eH.out.sb)).trans eH.out.sb
    have rb2:=(b2.block _ (aA eH.out.rb)).trans eH.out.rb
    have hgt:=eH.out.gt
    refine⟨v2,rfl,(by obtain⟨xa,xc,hx,_⟩:=bq.is.shape;exact⟨_,_,_,hx⟩),⟨W,hW,hide ⟨_,eH.out.fs.next hc hlt (bq.bz jP.size) b2 oW gW,(gW.block _ (aA sb2) (by simp;omega)).trans sb2,(gW.block _ (aA rb2) (by simp;omega)).trans rb2,hgt⟩⟩,y,z,ai sb2 2 rfl⟩)
   obtain⟨cA,cc,hcv,_,_⟩:=jo.shape
   rw[hcv]at d2 hwa afY x2 CP
   have hlt':(k:Int)<m:=by omega
   clear eH jo hlo rZ jL bA hc hcm
   go_wp2_with fail
   go_region_with (go_at_call 92;refine CP.out.mono ?_;rintro E w2 ⟨v2,rfl,⟨a2,n2,z2,rfl⟩,⟨W,hW,F2⟩,⟨y0,y1,y2⟩,⟨f0,f1,f2⟩,t2⟩)
   all_goals
    clear CP
    go_wp2
    go_roundw
    case rel=>
     obtain⟨rk2,G2⟩:=F2.out
     exact⟨k+1,rk2,by omega,by go_num,hide G2⟩
    case measure=>simp[intOf];omega
  ·obtain rfl:k=m:=by omega
   have hlt':¬(k:Int)<k:=by omega
   obtain⟨t0,t1,t2⟩:wr.cell? ⟨w.heap.size,0,none⟩=some (.int .i64 e)∧wr.cell? ⟨w.heap.size,1,none⟩=some (.int .i64 f)∧wr.cell? ⟨w.heap.size,2,none⟩=some (.slice (some ⟨g,0,none⟩) k cap):=⟨ai eH.out.sb 0 rfl,ai eH.out.sb 1 rfl,ai eH.out.sb 2 rfl⟩
   obtain⟨Z,hZ,bZ,gZ,⟨a0,a1,a2⟩,⟨f0,f1,f2⟩,z0,z1,z2⟩:=dN eH.out.rb (.int .i64 e) (.int .i64 f) (.slice (some ⟨g,0,none⟩) k cap)
   have G:Hid (gL w.heap.size Z (.slice (some ⟨g,0,none⟩) k cap) rk∧aD rk=aD rs∧Below w.heap.size w Z):=hide (by
    obtain⟨s1,s2⟩:=FIN.out _ g cap rk eH.out.fs
    have kp:bK 45 wr Z:=yC eH.out.rb gZ
    exact⟨s1.gq kp (by decide) (by decide),s2,aK eH.out.fs.aF gZ (by omega) eH.out.fs.aF.size⟩)
   clear eH bZ gZ
   go_wp2
   refine bodyPost_ret (v:=.agg #[.int .i64 e,.int .i64 f,.slice (some ⟨g,0,none⟩) k cap]) (by simp[results,Tryz.results161,go_sem,z0,z1,z2]) rfl ?_
   exact⟨_,rfl,⟨rk,G⟩,_,_,_,rfl⟩
theorem vK (vb:Value)(bs:List Int)(w:World)(hb:Is .u8 w vb bs)(hl:bs.length≤1000000000):Calls Tryz.prog 112 #[vb] w (ScO w bs):=by
 have HB:=hide hb
 obtain⟨ao,cap,hvb,_,_⟩:=hb.shape
 rw[hvb]at HB
 subst hvb
 clear hb
 go_enter Tryz.func112,Tryz.ntmps112
 go_wp2
 go_loopw [4,5,6] (fun ov ev av wr=>∃(a:Nat) (ep:Int) (oa:Option Addr) (ok:Nat) (l:List Sw),a≤bs.length∧av=.int .i64 a∧ev=.int .i64 ep∧ov=.slice oa l.length ok∧Hid (yR w wr bs a (.slice oa l.length ok) l∧Orp.pX 0 (jS l)=ep)) (fun _ _ av _=>bs.length-(intOf av).toNat)
 case atStart=>exact⟨0,0,none,0,[],by omega,rfl,rfl,rfl,hide ⟨⟨jZ.nil _ _,fun x hx=>by simp at hx,trivial,by simp[jS,Orp.secs],by simp[jS,Orp.secs],Below.refl _ _⟩,rfl⟩⟩
 case round=>
  obtain⟨a,ep,oa,ok,l,hle,rfl,rfl,rfl,M⟩:=hrel
  obtain⟨vs,hsl,dC⟩:=(HB.out.below M.out.1.aF).dP Tryz.jY Tryz.lH a hle
  have FR:=hide (aj9 vs (bs.drop a) wr dC (by rw[List.length_drop];omega))
  clear dC
  go_wp2_with fail
  refine FR.out.mono ?_
  rintro E w9 ⟨x,n,g,rfl,H9⟩
  obtain⟨xa,xk,hxv,_,_⟩:=H9.out.1.c.row.shape
  have iU:=H9.out.2.2.2.2
  obtain⟨wb,hwb,aqC,szb,qQ,bb,k0,k1,k2⟩:=dO w9 45 (.int .i64 0) (.int .i64 0) (.slice none 0 0) (.int .i64 x.e) (.int .i64 x.f) x.v
  have wJ:Below wr.heap.size wr wb:=iU.trans (qQ.mono iU.size)
  have HXV:=hide hxv
  have uV:=hide wJ
  have BWB:Hid (Below w.heap.size w wb):=hide (M.out.1.aF.trans (wJ.mono M.out.1.aF.size))
  have SX:=hide (H9.out.1.below qQ)
  have arI:=hide (M.out.1.own.below wJ)
  have BLK:=hide bb
  rw[hxv]at hwb aqC k2⊢
  clear FR hsl bb qQ iU wJ
  cases g with
  |false=>
   have FIN:Hid (Orp.Sn 0 bs (jS l)):=hide (M.out.1.no (by
    rcases H9.out.2.2.2.1 with⟨h1,_⟩|⟨_,h⟩
    ·simp at h1
    ·exact h))
   have HAT:=hide M.out.1.at'
   have HFT:=hide M.out.1.fit
   clear M H9 SX uV BLK
   go_wp2
   go_ret2
   exact⟨_,l,a,rfl,hide ⟨arI.out,HFT.out,HAT.out,FIN.out,BWB.out⟩⟩
  |true=>
   by_cases hle2:x.e≤ep
   ·have FIN:Hid (Orp.Sn 0 bs (jS l)):=hide (M.out.1.low H9.out.2.2.2.1 (by rw[M.out.2];exact hle2))
    have HAT:=hide M.out.1.at'
    have HFT:=hide M.out.1.fit
    clear M H9 SX uV BLK
    go_wp2
    go_ret2
    exact⟨_,l,a,rfl,hide ⟨arI.out,HFT.out,HAT.out,FIN.out,BWB.out⟩⟩
   ·have HCZ:Hid (Orp.aJ x.s=0∧1≤n∧a+n≤bs.length):=hide (by
     rcases H9.out.2.2.2.1 with⟨_,h1,h2,h3⟩|⟨h1,_⟩
     ·have h4:=Orp.zI x.s
      have h5:=h2.length_le
      rw[List.length_drop]at h5
      exact⟨h1,by omega,by omega⟩
     ·simp at h1)
    have HLN:Hid (1≤x.rs.length∧x.rs.length≤1048576):=hide (by
     obtain⟨_,_,_,_,h5,h6,_⟩:=Orp.bu HCZ.out.1
     rw[show x.s.cs=aD x.rs from rfl,ji]at h5 h6
     exact⟨h5,h6⟩)
    have CP:=hide (ak7 x.e x.f x.v x.rs wb SX.out.isC SX.out.f (by have:=HLN.out;omega) HLN.out.2)
    rw[hxv]at CP
    obtain⟨_,hn1,hn2⟩:=HCZ.out
    have LST:Hid (∀cs v,Orp.pX 0 (jS (l++[⟨x.e,x.f,v,cs⟩]))=x.e):=hide fun cs v=>by
     rw[wI,Orp.nX]
     rfl
    clear hxv
    go_wp2_with fail
    refine CP.out.mono ?_
    rintro E wc ⟨vc,cs,rfl,HC,ca,cn,ck,mg⟩
    have eU:Below wr.heap.size wr wc:=uV.out.trans (HC.out.2.2.mono uV.out.size)
    obtain⟨V,hV,bn,fE,hpu⟩:=M.out.1.own.azR M.out.1.aF.size eU ⟨x.e,x.f,vc,cs⟩ (HC.out.1.bz (b':=wr.heap.size) uV.out.size) ⟨H9.out.2.1,H9.out.2.2.1⟩ (by have:=M.out.1.len;omega)
    have hBW:(wc.heap[w9.heap.size]?)=some (.cells #[.int .i64 x.e,.int .i64 x.f,x.v] 45 (0,0)):=(HC.out.2.2.block _ (aA BLK.out)).trans BLK.out
    have XX:Hid (∀ty,∃v2 w2,(Builtin.append_ #[144,144] ty #[.slice oa l.length ok,.slice (some ⟨wc.heap.size,0,none⟩) 1 1]).run Tryz.prog V=.ok v2 w2∧(Hid (yR w w2 bs (a+n) v2 (l++[⟨x.e,x.f,vc,cs⟩]))∧w2.cell? ⟨w9.heap.size,0,none⟩=some (.int .i64 x.e)∧∃a k,v2=.slice a (l++[(⟨x.e,x.f,vc,cs⟩:Sw)]).length k)):=hide fun ty=>by
     obtain⟨v2,w2,h1,h2,h3,h4⟩:=hpu ty
     have hs:(⟨x.e,x.f,vc,cs⟩:Sw).s=x.s:=by
      show(⟨x.e,x.f,aD cs⟩:Orp.Se)=⟨x.e,x.f,aD x.rs⟩
      rw[HC.out.2.1]
     have rd:=H9.out.2.2.2.1
     rw[←hs]at rd
     obtain⟨sa,sk,hsv,_,_⟩:=h2.is.shape
     refine⟨v2,w2,h1,hide (M.out.1.next (x:=⟨x.e,x.f,vc,cs⟩) rd (by rw[M.out.2];show ep<x.e;omega) HC.out.1.f h2 ((M.out.1.aF.trans (eU.mono M.out.1.aF.size)).trans h3.1)).1,?_,sa,sk,hsv⟩
     have hVW:=(bn.block _ (aA hBW)).trans hBW
     refine ai ((h3.2.block _ (aA hVW) fun e=>?_).trans hVW) 0 rfl
     have q1:=(World.ownsRow.lt M.out.1.own.r _ e.symm).2
     have q2:=H9.out.2.2.2.2.size
     omega
    subst mg
    clear CP M H9 SX uV BWB arI BLK HXV szb HC eU hpu bn fE hBW HCZ HLN
    go_wp2_with (at_builtin;refine jN rfl (.tmp 28) (.tmp 31) 144 rfl (.slice oa l.length ok) (.slice (some ⟨wc.heap.size,0,none⟩) 1 1) rfl rfl XX.out ?_)
    rintro v8 w8 MU t0 sa sk rfl
    have LS:=hide (LST.out cs (.slice ca cn ck))
    clear XX LST
    go_wp2
    go_roundw
    case rel=>exact⟨a+n,x.e,sa,sk,l++[⟨x.e,x.f,.slice ca cn ck,cs⟩],by omega,by go_num,rfl,by rw[List.length_append];rfl,hide ⟨by rw[List.length_append];exact MU.out,LS.out⟩⟩
    case measure=>simp[intOf];omega
end Go.Proofs.YtpifdeoepppadaaGreatDoor

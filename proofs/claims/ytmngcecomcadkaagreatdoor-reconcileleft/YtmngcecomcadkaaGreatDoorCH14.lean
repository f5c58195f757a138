/- Texts of one layer, one behind the other. -/
import Derived.Test.YtmngcecomcadkaaGreatDoorCH12
import Derived.Test.YtmngcecomcadkaaGreatDoorCH6
import Derived.Test.YtmngcecomcadkaaGreatDoorCH13
import Derived.Deep.RegionWith
set_option maxRecDepth 100000
set_option maxHeartbeats 8000000
namespace Go.Proofs.YtmngcecomcadkaaGreatDoor
open Go.RowKit
set_option linter.unusedVariables false
structure MdP (w wr:World) (bs:List Int) (x y m a:Nat) (v:Value) (cs:List Cw):Prop where
 blk:wr.heap[w.heap.size]? =some (.cells #[.int .i64 x,.int .i64 y,v] 52 (0,0))
 sh:fT (w.heap.size+1) wr v cs
 aF:Below w.heap.size w wr
 hh:Fm.bT (Vm.enc x++(Vm.enc y++Vm.enc m))<+:bs
 hl:Wl.aR (ay cs)<+:bs.drop (Fm.bT (Vm.enc x++(Vm.enc y++Vm.enc m))).length
 hc:∀c∈ay cs,Cm.chk c.e c.n c.l=0
 at':a=(Fm.bT (Vm.enc x++(Vm.enc y++Vm.enc m))).length+(Wl.aR (ay cs)).length
 len:cs.length≤m
 num:x≤1048576∧y≤1048576∧m≤1048576
theorem MdP.le {w wr:World}{bs:List Int}{x y m a:Nat}{v:Value}{cs:List Cw}(h:MdP w wr bs x y m a v cs):a≤bs.length:=by
 have h1:=h.hh.length_le
 have h2:=h.hl.length_le
 rw[List.length_drop]at h2
 rw[h.at']
 omega
theorem MdP.no {w wr:World}{bs:List Int}{x y m a:Nat}{v:Value}{cs:List Cw}(h:MdP w wr bs x y m a v cs)(hlt:cs.length<m)(hn:(∃r n e,Fm.Rd (bs.drop a) r n e∧e≠0)∨∃r n e k l g,Fm.Rd (bs.drop a) r n 0∧Cm.pg r e k l g∧g≠0):Orp.No bs:=by
 refine Orp.avo h.hh h.hl h.hc (by rw[iI];exact hlt) fun c hc hp=>?_
 rw[←h.at']at hp
 rcases hn with⟨r,n,e,hr,he⟩|⟨r,n,e,k,l,g,hr,hd,hg⟩
 ·rcases hr with⟨h1,_⟩|⟨_,_,_,hn⟩
  ·exact he h1
  ·exact hn _ (by have:=Wl.xG hc;omega) hp
 ·rcases hr with⟨_,_,_,hq⟩|⟨h1,_⟩
  ·rcases hd with⟨h1,_⟩|⟨_,_,_,_,hn⟩
   ·exact hg h1
   ·exact hn _ _ _ hc (Fm.tu hp hq)
  ·simp at h1
theorem MdP.push {w wr w6:World}{bs:List Int}{x y m a:Nat}{v:Value}{cs:List Cw}(h:MdP w wr bs x y m a v cs)(hb:Below wr.heap.size wr w6)(hlt:cs.length<m){r:List Int}{n:Nat}(hr:Fm.Rd (bs.drop a) r n 0){e k:Int}{l:List Bm.Ov}(hd:Cm.pg r e k l 0){v':Value}(ho:bg 111 wr.heap.size w6 v' l):
  ∃V,w6.alloc (.cells #[.int .i64 e,.int .i64 k,v'] 35)=V∧V.cell? ⟨w.heap.size,2,none⟩=some v∧Hid (∀ty,∃v2 w2,(Builtin.append_ #[22,22] ty #[v,.slice (some ⟨w6.heap.size,0,none⟩) 1 1]).run Tryz.prog V=.ok v2 w2∧
   ((∃U,w2.setCell ⟨w.heap.size,2,none⟩ v2=U∧MdP w U bs x y m (a+n) v2 (cs++[⟨e,k,v',l⟩]))∧w2.cell? ⟨w.heap.size,2,none⟩=some v∧w2.frozen? ⟨w.heap.size,2,none⟩=false∧∃a n k,v2=.slice a n k)):=by
 obtain⟨g1,g2,g3,g4,g5,g6⟩:=aeL (v':=v') h.hl h.hc h.at' hr hd
 have hS:=ax h.blk
 obtain⟨V,hV,bf,jX,hpu⟩:=h.sh.push (by omega) hb ⟨e,k,v',l⟩ ho (arV g1) (by have:=h.num;have:=h.len;omega)
 have xg:Below wr.heap.size wr V:=hb.trans (bf.mono hb.size)
 have hBV:=(xg.block w.heap.size hS).trans h.blk
 refine⟨V,hV,ai hBV 2 rfl,hide fun ty=>?_⟩
 obtain⟨v2,w2,hrun,sh2,gT,hsl⟩:=hpu ty
 have hvb:∀g,v.ownBlock=some g→w.heap.size+1≤g:=fun g hg=>(World.ownsRow.lt h.sh.c g hg).1
 have hB2:=(gT.block w.heap.size (ax hBV) fun e=>by have:=hvb _ e.symm;omega).trans hBV
 obtain⟨U,hU,bU,gU,fU⟩:=aqt hB2 2 v2
 refine⟨v2,w2,hrun,⟨⟨U,hU,?_⟩,ai hB2 2 rfl,fU,hsl⟩⟩
 have b2:Below w.heap.size w w2:=(h.aF.trans (xg.mono h.aF.size)).grown gT (by have:=xg.size;have:=h.aF.size;omega) fun g hg=>by have:=hvb g hg;omega
 exact⟨by rw[bU];rfl,sh2.out (F:=fun g=>g=w.heap.size) (Out.aQ gU fun g hg=>by simp at hg;exact hg.symm) (fun g hg=>by rw[hg];omega),aB b2 gU (Nat.le_refl _) b2.size,h.hh,g4,g5,g6,by rw[List.length_append,List.length_singleton];omega,h.num⟩
theorem ahU (vb:Value)(bs:List Int)(w:World)(hb:Is .u8 w vb bs)(hl:bs.length≤140737488355328):Calls Tryz.prog 36 #[vb] w (avM w bs):=by
 obtain⟨w1,hw1,aT,aj,jF⟩:=ak w #[.int .i64 0,.int .i64 0,.slice none 0 0] 52
 have HB:=hide hb
 have F1:=hide (oJ vb bs w1 (hb.below aj) (by omega))
 obtain⟨ao,cap,hvb,_,_⟩:=hb.shape
 rw[hvb]at HB F1
 subst hvb
 have B1:=hide aj
 have R1:=hide jF
 clear hb jF aj
 go_enter Tryz.func36,Tryz.ntmps36
 go_wp2_with fail
 refine F1.out.mono ?_
 rintro E w2 ⟨vh,hs,n0,e0,rfl,lG,au,HRd⟩
 have hR2:=(au.block w.heap.size (by omega)).trans R1.out
 have B2:=hide (B1.out.trans (au.mono B1.out.size))
 obtain⟨ah,ch,vE,_,_⟩:=lG.is.shape
 clear F1 R1
 by_cases he0:e0=0
 ·subst he0
  have HF:Hid (Fm.bT hs<+:bs∧n0=(Fm.bT hs).length∧hs.length≤131072):=hide (by
   rcases HRd.out with⟨_,h1,h2,h3⟩|⟨h1,_⟩
   ·exact⟨h3,by rw[h2,Fm.kJ],h1⟩
   ·simp at h1)
  have HD:=hide (an8 vh hs w2 lG.is (by have:=HF.out.2.2;omega))
  rw[vE]at HD
  subst vE
  clear lG au HRd
  go_wp2_with fail
  refine HD.out.mono ?_
  rintro E w3 ⟨x,y,m,g,rfl,HX,aD⟩
  have bM:=(aD.block _ (ax hR2)).trans hR2
  have B3:=B2.out.trans (aD.mono B2.out.size)
  obtain⟨Z,hZ,bZ,gZ,⟨a0,a1,a2⟩,⟨f0,f1,f2⟩,z0,z1,z2⟩:=dP bM (.int .i64 x) (.int .i64 y) (.slice none 0 0)
  have BZ:=hide (aB B3 gZ (Nat.le_refl _) B3.size)
  have ZB:=hide bZ
  clear HD hR2 bM B3 B2 aD gZ bZ
  cases g with
  |false=>
   have NO:Hid (Orp.No bs):=hide (Orp.atE HF.out.1 (by
    rcases HX.out with⟨h1,_⟩|⟨_,h⟩
    ·simp at h1
    ·exact h))
   obtain⟨Y,hY,bY,gY,_,⟨g0,g1,g2⟩,y0,y1,y2⟩:=dP ZB.out (.int .i64 0) (.int .i64 0) (.slice none 0 0)
   have BY:=hide (aB BZ.out gY (Nat.le_refl _) BZ.out.size)
   clear ZB gY bY BZ HX HF HB
   go_wp2
   refine bodyPost_ret (v:=.tuple #[.agg #[.int .i64 0,.int .i64 0,.slice none 0 0],.int .i64 0,.bool false]) (by simp[results,Tryz.results36,go_sem,y0,y1,y2]) rfl ?_
   exact yl BY.out NO.out
  |true=>
   have MM:Hid (MdP w Z bs x y m n0 (.slice none 0 0) []):=hide (by
    rcases HX.out with⟨_,h1,h2⟩|⟨h1,_⟩
    ·exact⟨ZB.out,fT.nil _ _,BZ.out,by rw[h2];exact HF.out.1,by simp[ay,Wl.aR,Fm.cat],fun c hc=>by simp[ay]at hc,by rw[h2];simpa[ay,Wl.aR,Fm.cat]using HF.out.2.1,Nat.zero_le _,h1⟩
    ·simp at h1)
   have hm:=MM.out.num.2.2
   have hn0:=MM.out.le
   clear ZB BZ HX HF
   go_wp2
   go_loopw [3,31] (fun av kv wr=>∃(a:Nat) (v:Value) (cs:List Cw),a≤bs.length∧cs.length≤m∧av=.int .i64 a∧kv=.int .i64 cs.length∧Hid (MdP w wr bs x y m a v cs)) (fun _ kv _=>m-(intOf kv).toNat)
   case atStart=>exact⟨n0,_,[],hn0,by simp,rfl,rfl,MM⟩
   case round=>
    clear MM z0 z1 z2
    obtain⟨a,v,cs,hle,hcl,rfl,rfl,M⟩:=hrel
    obtain⟨av,kv,hvv,_,_⟩:=M.out.sh.c.row.shape
    rw[hvv]at M
    subst hvv
    obtain⟨c0,c1,c2⟩:wr.cell? ⟨w.heap.size,0,none⟩=some (.int .i64 x)∧wr.cell? ⟨w.heap.size,1,none⟩=some (.int .i64 y)∧wr.cell? ⟨w.heap.size,2,none⟩=some (.slice av cs.length kv):=⟨ai M.out.blk 0 rfl,ai M.out.blk 1 rfl,ai M.out.blk 2 rfl⟩
    by_cases hlt:cs.length<m
    ·have hlt':(cs.length:Int)<m:=by omega
     obtain⟨vs,hsl,eQ⟩:=(HB.out.below M.out.aF).gq Tryz.uh Tryz.xQ a hle
     have FR:=hide (anO vs (bs.drop a) wr eQ (by rw[List.length_drop];omega))
     clear eQ c0 c1 c2
     go_wp2_with fail
     refine FR.out.mono ?_
     rintro E w9 ⟨c,n,g,rfl,H9⟩
     obtain⟨ca,ck,hcv,_,_⟩:=H9.out.1.is.shape
     have gG:=H9.out.2.1
     obtain⟨wb,hwb,aom,szb,zC,bb,k0,k1,k2⟩:=fJ w9 35 (.int .i64 0) (.int .i64 0) (.slice none 0 0) (.int .i64 c.e) (.int .i64 c.n) c.v
     have uj:Below wr.heap.size wr wb:=gG.trans (zC.mono gG.size)
     have OB:=hide (H9.out.1.below zC)
     have tL:=hide uj
     rw[hcv]at hwb aom k2⊢
     have qM:=hide hcv
     clear FR hsl bb zC gG uj
     cases g with
     |false=>
      have NO:Hid (Orp.No bs):=hide (M.out.no hlt (by
       rcases H9.out.2.2 with⟨h1,_⟩|⟨_,h⟩
       ·simp at h1
       ·exact h))
      have hBb:=(tL.out.block _ (ax M.out.blk)).trans M.out.blk
      have bwb:=M.out.aF.trans (tL.out.mono M.out.aF.size)
      obtain⟨Y,hY,bY,gY,⟨i0,i1,i2⟩,⟨g0,g1,g2⟩,y0,y1,y2⟩:=dP hBb (.int .i64 0) (.int .i64 0) (.slice none 0 0)
      have BY:=hide (aB bwb gY (Nat.le_refl _) bwb.size)
      clear gY bY bwb hBb M H9 OB tL szb
      go_wp2
      refine bodyPost_ret (v:=.tuple #[.agg #[.int .i64 0,.int .i64 0,.slice none 0 0],.int .i64 0,.bool false]) (by simp[results,Tryz.results36,go_sem,y0,y1,y2]) rfl ?_
      exact yl BY.out NO.out
     |true=>
      have HR:Hid (∃r,Fm.Rd (bs.drop a) r n 0∧Cm.pg r c.e c.n c.l 0):=hide (by
       rcases H9.out.2.2 with⟨_,h⟩|⟨h1,_⟩
       ·exact h
       ·simp at h1)
      obtain⟨r,hr1,hr2⟩:=HR.out
      obtain⟨V,hV,cV,XX⟩:=M.out.push tL.out hlt hr1 hr2 OB.out
      have NN:=hide (aeL (v':=c.v) M.out.hl M.out.hc M.out.at' hr1 hr2)
      have cb2:wb.cell? ⟨w.heap.size,2,none⟩=some (.slice av cs.length kv):=(tL.out.cell (p:=⟨w.heap.size,2,none⟩) (ax M.out.blk)).trans (ai M.out.blk 2 rfl)
      have hna:=NN.out.2.2.1
      rw[qM.out]at hV
      clear NN OB HR hr1 hr2 tL H9 M szb qM
      go_wp2_with (at_builtin;refine jq rfl (.tmp 45) (.tmp 47) 22 rfl (.slice av cs.length kv) (.slice (some ⟨wb.heap.size,0,none⟩) 1 1) rfl rfl XX.out ?_)
      rintro v8 w8 MU c8 f8 a8 n8 k8 rfl
      obtain⟨U,hU⟩:∃U,w8.setCell ⟨w.heap.size,2,none⟩ (.slice a8 n8 k8)=U:=⟨_,rfl⟩
      rw[hU]at MU
      have MU2:=hide MU
      have HL2:Hid (∀d:Cw,(cs++[d]).length=cs.length+1):=hide fun d=>by simp
      clear MU XX
      go_wp2
      go_roundw
      case rel=>exact⟨a+n,_,_,by omega,by rw[HL2.out];omega,by go_num,by rw[HL2.out];go_num,MU2⟩
      case measure=>simp[intOf];omega
    ·have hlt':¬(cs.length:Int)<m:=by omega
     have hlm:cs.length=m:=by omega
     have hcl:(ay cs).length=m:=by rw[iI];exact hlm
     obtain⟨ck,hck⟩:∃z,Orp.chk ⟨x,y,ay cs⟩=z:=⟨_,rfl⟩
     have RDX:Hid ((ck=0→Orp.Rd bs ⟨x,y,ay cs⟩ a true)∧(ck≠0→Orp.No bs)):=hide (by
      have h1:=M.out.hh
      have h2:=M.out.hl
      have h3:=M.out.at'
      rw[←hcl]at h1 h2 h3
      refine⟨fun h0=>?_,fun h0=>Orp.avX h1 h2 M.out.hc (by rw[hck];exact h0)⟩
      obtain⟨k1,k2⟩:=Orp.avz h1 h2
      exact .inl ⟨rfl,by rw[hck];exact h0,k1,by rw[k2];exact h3⟩)
     have IX:Hid (In64 (x:Int)∧In64 (y:Int)):=hide ⟨⟨by omega,by have:=M.out.num;omega⟩,⟨by omega,by have:=M.out.num;omega⟩⟩
     have CK:=hide (vX x y (.slice av cs.length kv) cs wr M.out.sh.isC M.out.sh.f (by omega))
     unfold bK at CK
     rw[hck]at CK
     clear hck hcl hlm HB
     go_wp2_with fail
     refine CK.out.mono ?_
     rintro E w9 ⟨rfl,gG⟩
     have hB9:=(gG.block _ (ax M.out.blk)).trans M.out.blk
     have sh9:=M.out.sh.below gG
     have b9:=M.out.aF.trans (gG.mono M.out.aF.size)
     by_cases h0:ck=0
     ·subst h0
      obtain⟨⟨s0,s1,s2⟩,⟨f0,f1,f2⟩,z0,z1,z2⟩:=qw w9 hB9
      have RD0:=hide (RDX.out.1 rfl)
      have SH:=hide (sh9.bu (b':=w.heap.size) (by omega))
      have BB:=hide b9
      clear hB9 sh9 b9 gG CK M c0 c1 c2
      go_wp2
      refine bodyPost_ret (v:=.tuple #[.agg #[.int .i64 x,.int .i64 y,.slice av cs.length kv],.int .i64 a,.bool true]) (by simp[results,Tryz.results36,go_sem,z0,z1,z2]) rfl ?_
      exact⟨⟨x,y,.slice av cs.length kv,cs⟩,a,true,rfl,hide ⟨SH.out,IX.out.1,IX.out.2,RD0.out,BB.out⟩⟩
     ·have hne:(ck !=0)=true:=by simp[h0]
      have NO:=hide (RDX.out.2 h0)
      obtain⟨Y,hY,bY,gY,⟨i0,i1,i2⟩,⟨g0,g1,g2⟩,y0,y1,y2⟩:=dP hB9 (.int .i64 0) (.int .i64 0) (.slice none 0 0)
      have BY:=hide (aB b9 gY (Nat.le_refl _) b9.size)
      clear gY bY b9 hB9 M sh9 gG CK h0 c0 c1 c2
      go_wp2
      refine bodyPost_ret (v:=.tuple #[.agg #[.int .i64 0,.int .i64 0,.slice none 0 0],.int .i64 0,.bool false]) (by simp[results,Tryz.results36,go_sem,y0,y1,y2]) rfl ?_
      exact yl BY.out NO.out
 ·have heb:(e0 !=0)=true:=by simp[he0]
  have NO:Hid (Orp.No bs):=hide (Orp.au3 (by
   rcases HRd.out with⟨h1,_⟩|⟨_,_,_,h⟩
   ·exact absurd h1 he0
   ·exact h))
  obtain⟨⟨s0,s1,s2⟩,⟨f0,f1,f2⟩,z0,z1,z2⟩:=qw w2 hR2
  subst vE
  clear HRd lG au hR2
  go_wp2
  refine bodyPost_ret (v:=.tuple #[.agg #[.int .i64 0,.int .i64 0,.slice none 0 0],.int .i64 0,.bool false]) (by simp[results,Tryz.results36,go_sem,z0,z1,z2]) rfl ?_
  exact yl B2.out NO.out
theorem wm {w w':World}{R:Nat}{cs:Array Value}{t:TypeId}{fr:Nat×Nat}(hR:w.heap[R]? =some (.cells cs t fr))(hg:w.grownBy w' (some R)):bH t w w':=by
 intro g cs' t' fr' hc ht
 refine(hg.block g (ax hc) fun e1=>?_).trans hc
 have e2:=Option.some.inj e1
 subst e2
 rw[hR]at hc
 simp at hc
 exact ht hc.2.1.symm
structure Cpd (w wr:World) (e f:Int) (g m cap:Nat) (rest:List Cw) (k:Nat) (rk:List Cw):Prop where
 fs:zi w wr g m cap rest k rk
 sb:wr.heap[w.heap.size]? =some (.cells #[.int .i64 e,.int .i64 f,.slice (some ⟨g,0,none⟩) m cap] 52 (0,0))
 rb:wr.heap[w.heap.size+1]? =some (.cells #[.int .i64 0,.int .i64 0,.slice none 0 0] 52 (0,0))
 gt:w.heap.size+1<g
theorem ajl (e f:Int)(v:Value)(rs:List Cw)(w:World)(h:di w v rs)(hf:dL rs)(h0:0<rs.length)(hl:rs.length≤1048576):
  Calls Tryz.prog 37 #[.agg #[.int .i64 e,.int .i64 f,v]] w fun E w'=>∃v' cs,E=.returned (.agg #[.int .i64 e,.int .i64 f,v'])∧Hid (fT w.heap.size w' v' cs∧ay cs=ay rs∧Below w.heap.size w w')∧∃a n k,v'=.slice a n k:=by
 obtain⟨w1,hw1,aT,aj,hB⟩:=ak w #[.int .i64 e,.int .i64 f,v] 52
 obtain⟨w2,hw2,dz,au,hR⟩:=ak w1 #[.int .i64 0,.int .i64 0,.slice none 0 0] 52
 rw[aT]at hR
 have hB2:=(au.block w.heap.size (by omega)).trans hB
 have aL:Below w.heap.size w w2:=aj.trans (au.mono (by omega))
 obtain⟨m,hm⟩:∃m,rs.length=m:=⟨_,rfl⟩
 have h2:=h.below aL
 have tq:Hid (Calls Tryz.prog 88 #[v] w2 fun E w3=>∃g cap,E=.returned (.slice (some ⟨g,0,none⟩) m cap)∧(∃X,w3.setCell ⟨w.heap.size,2,none⟩ (.slice (some ⟨g,0,none⟩) m cap)=X∧Hid (Cpd w X e f g m cap rs 0 rs))∧m≤cap∧w3.cell? ⟨w.heap.size,2,none⟩=some v∧w3.frozen? ⟨w.heap.size,2,none⟩=false):=hide (by
  refine(aa0 v rs w2 h2.1 (fun c hc=>(h2.2 c hc).1.one) hl).mono ?_
  rintro E w3 ⟨v3,rfl,own,aF⟩
  have hB3:=(aF.block w.heap.size (by omega)).trans hB2
  have bM:=(aF.block (w.heap.size+1) (by omega)).trans hR
  rcases own.2 with⟨_,hz⟩|⟨g,cap,cur,hvv,hgb,_,hc,_⟩
  ·omega
  ·rw[hm]at hvv
   obtain⟨X,hX,bX,gX,q2,q3⟩:=sM hB3 (.slice (some ⟨g,0,none⟩) m cap)
   have hg:w2.heap.size≤g:=(World.ownsRow.lt own g (by rw[hvv];rfl)).1
   have oX:bn 35 w.heap.size X v3 rs:=bN (mD own (by omega)) fun i hi=>by
    have h1:=World.ownsRow.lt own i hi
    exact gX.block i h1.2 (by simp;omega)
   rw[hvv]at oX
   refine⟨g,cap,by rw[hvv],⟨X,hX,hide ⟨⟨oX,hm,rfl,fun c hc=>by simp at hc,rfl,fun i j c d _ hc=>by simp at hc,aB (aL.trans (aF.mono aL.size)) gX (Nat.le_refl _) (by have:=aF.size;omega)⟩,bX,(gX.block _ (ax bM) (by simp)).trans bM,by omega⟩⟩,by omega,q2,q3⟩)
 have anh:Hid (∀W,Below w.heap.size w W→∀c∈rs,dh W c.v c.l∧c.l.length*40≤140737488351232):=hide fun W hb c hc=>⟨((h.2 c hc).1).below hb,(hf c hc).2⟩
 have FIN:Hid (∀W g cap rk,zi w W g m cap rs m rk→fT w.heap.size W (.slice (some ⟨g,0,none⟩) m cap) rk∧ay rk=ay rs):=hide fun W g cap rk hF=>by
  have ht:rk.take m=rk:=List.take_of_length_le (by rw[hF.len];omega)
  have h1:=hF.kN
  have h2:=hF.ap
  rw[ht]at h1 h2
  have q:∀c∈rk,∃d∈rs,c.c=d.c:=fun c hc=>by
   have:c.c∈ay rk:=by unfold ay;exact List.mem_map.2 ⟨c,hc,rfl⟩
   rw[hF.is]at this
   unfold ay at this
   obtain⟨d,hd,e⟩:=List.mem_map.1 this
   exact⟨d,hd,e.symm⟩
  refine⟨⟨hF.row,h1,fun c hc=>?_,h2,fun c hc=>?_⟩,hF.is⟩
  ·obtain⟨d,hd,e⟩:=q c hc
   have e1:c.e=d.e:=congrArg Cm.Cv.e e
   have e2:c.n=d.n:=congrArg Cm.Cv.n e
   rw[e1,e2]
   exact(h.2 d hd).2
  ·obtain⟨d,hd,e⟩:=q c hc
   have e3:c.l=d.l:=congrArg Cm.Cv.l e
   have:=hf d hd
   rw[←e3]at this
   exact this
 have HRL:=hide hm
 have c2:=ai hB2 2 rfl
 simp only[List.getElem_toArray,List.getElem_cons_zero,List.getElem_cons_succ]at c2
 obtain⟨ao,ca,hv,_,_⟩:=h.1.shape
 rw[hm]at hv
 rw[hv]at hw1 tq c2
 subst hv
 have hm0:0<m:=by omega
 have hm1:m≤1048576:=by omega
 clear h hf h2 hB hB2 hR aj au aL h0 hl hm
 go_enter Tryz.func37,Tryz.ntmps37
 go_wp2_with fail
 refine tq.out.mono ?_
 rintro E w3 ⟨g,cap,rfl,⟨X,hX,C0⟩,hcp,q2,q3⟩
 have x2:X.cell? ⟨w.heap.size,2,none⟩=some (.slice (some ⟨g,0,none⟩) m cap):=ai C0.out.sb 2 rfl
 clear tq
 go_wp2
 go_loopw [12] (fun iv wr=>∃(k:Nat) (rk:List Cw),k≤m∧iv=.int .i64 k∧Hid (Cpd w wr e f g m cap rs k rk)) (fun iv _=>m-(intOf iv).toNat)
 case atStart=>exact⟨0,rs,by omega,rfl,C0⟩
 case round=>
  clear C0 x2 q2 q3
  obtain⟨k,rk,hk,rfl,gB⟩:=hrel
  by_cases hlt:k<m
  ·obtain⟨c,hc⟩:∃c,rs[k]? =some c:=⟨rs[k]'(by rw[HRL.out];omega),by rw[List.getElem?_eq_getElem]⟩
   have hcm:=List.mem_of_getElem? hc
   have vN:rk[k]? =some c:=by
    have e1:(rk.drop k)[0]? =(rs.drop k)[0]? :=by rw[gB.out.fs.left]
    rw[List.getElem?_drop,List.getElem?_drop]at e1
    simpa using e1.trans (by simpa using hc)
   obtain⟨⟨d0,d1,d2⟩,_⟩:=yc gB.out.fs.row gB.out.fs.len k c vN
   obtain⟨wa,hwa,zP,sza,jJ,bA,x0,x1,x2⟩:=fJ wr 35 (.int .i64 0) (.int .i64 0) (.slice none 0 0) (.int .i64 c.e) (.int .i64 c.n) c.v
   obtain⟨kT,hlo⟩:=anh.out wr gB.out.fs.aF c hcm
   have s2:wa.cell? ⟨w.heap.size,2,none⟩=some (.slice (some ⟨g,0,none⟩) m cap):=ai ((jJ.block _ (ax gB.out.sb)).trans gB.out.sb) 2 rfl
   have CP:Hid (Calls Tryz.prog 35 #[.agg #[.int .i64 c.e,.int .i64 c.n,c.v]] wa.drew fun E w2=>∃v2,E=.returned (.agg #[.int .i64 c.e,.int .i64 c.n,v2])∧(∃a n z,v2=.slice a n z)∧(∃W,((w2.setCell ⟨g,k*3,none⟩ (.int .i64 c.e)).setCell ⟨g,k*3+1,none⟩ (.int .i64 c.n)).setCell ⟨g,k*3+2,none⟩ v2=W∧Hid (∃rk',Cpd w W e f g m cap rs (k+1) rk'))∧(w2.cell? ⟨g,k*3,none⟩=some (.int .i64 c.e)∧w2.cell? ⟨g,k*3+1,none⟩=some (.int .i64 c.n)∧w2.cell? ⟨g,k*3+2,none⟩=some c.v)∧(w2.frozen? ⟨g,k*3,none⟩=false∧w2.frozen? ⟨g,k*3+1,none⟩=false∧w2.frozen? ⟨g,k*3+2,none⟩=false)∧w2.cell? ⟨w.heap.size,2,none⟩=some (.slice (some ⟨g,0,none⟩) m cap)):=hide (by
    have ah9:Below wr.heap.size wr wa.drew:=jJ.drew
    refine(oK c.e c.n c.v c.l wa.drew (kT.below ah9) hlo).mono ?_
    rintro E w2 ⟨v2,rfl,aP,au⟩
    have b2:Below wr.heap.size wr w2:=ah9.trans (au.mono ah9.size)
    have hrow2:bn 35 w.heap.size w2 (.slice (some ⟨g,0,none⟩) m cap) rk:=gB.out.fs.row.below b2
    obtain⟨W,hW,oW,gW⟩:=afr hrow2 gB.out.fs.len k hlt ⟨c.e,c.n,v2,c.l⟩
    obtain⟨y,z⟩:=yc hrow2 gB.out.fs.len k c vN
    have sb2:=(b2.block _ (ax gB.out.sb)).trans gB.out.sb
    have rb2:=(b2.block _ (ax gB.out.rb)).trans gB.out.rb
    have hgt:=gB.out.gt
    refine⟨v2,rfl,(by obtain⟨xa,xc,hx,_⟩:=aP.is.shape;exact⟨_,_,_,hx⟩),⟨W,hW,hide ⟨_,gB.out.fs.next hc hlt (aP.bu ah9.size) b2 oW gW,(gW.block _ (ax sb2) (by simp;omega)).trans sb2,(gW.block _ (ax rb2) (by simp;omega)).trans rb2,hgt⟩⟩,y,z,ai sb2 2 rfl⟩)
   obtain⟨cA,cc,hcv,_,_⟩:=kT.shape
   rw[hcv]at d2 hwa zP x2 CP
   have hlt':(k:Int)<m:=by omega
   clear gB kT hlo vN jJ bA hc hcm
   go_wp2_with fail
   go_region_with (go_at_call 35;refine CP.out.mono ?_;rintro E w2 ⟨v2,rfl,⟨a2,n2,z2,rfl⟩,⟨W,hW,F2⟩,⟨y0,y1,y2⟩,⟨f0,f1,f2⟩,t2⟩)
   all_goals
    clear CP
    go_wp2
    go_roundw
    case rel=>
     obtain⟨rk2,G2⟩:=F2.out
     exact⟨k+1,rk2,by omega,by go_num,hide G2⟩
    case measure=>simp[intOf];omega
  ·obtain rfl:k=m:=by omega
   have hlt':¬(k:Int)<k:=by omega
   obtain⟨t0,t1,t2⟩:wr.cell? ⟨w.heap.size,0,none⟩=some (.int .i64 e)∧wr.cell? ⟨w.heap.size,1,none⟩=some (.int .i64 f)∧wr.cell? ⟨w.heap.size,2,none⟩=some (.slice (some ⟨g,0,none⟩) k cap):=⟨ai gB.out.sb 0 rfl,ai gB.out.sb 1 rfl,ai gB.out.sb 2 rfl⟩
   obtain⟨Z,hZ,bZ,gZ,⟨a0,a1,a2⟩,⟨f0,f1,f2⟩,z0,z1,z2⟩:=dP gB.out.rb (.int .i64 e) (.int .i64 f) (.slice (some ⟨g,0,none⟩) k cap)
   have G:Hid (fT w.heap.size Z (.slice (some ⟨g,0,none⟩) k cap) rk∧ay rk=ay rs∧Below w.heap.size w Z):=hide (by
    obtain⟨s1,s2⟩:=FIN.out _ g cap rk gB.out.fs
    have kp:bH 52 wr Z:=wm gB.out.rb gZ
    exact⟨s1.iJ kp (by decide) (by decide),s2,aB gB.out.fs.aF gZ (by omega) gB.out.fs.aF.size⟩)
   clear gB bZ gZ
   go_wp2
   refine bodyPost_ret (v:=.agg #[.int .i64 e,.int .i64 f,.slice (some ⟨g,0,none⟩) k cap]) (by simp[results,Tryz.results37,go_sem,z0,z1,z2]) rfl ?_
   exact⟨_,rfl,⟨rk,G⟩,_,_,_,rfl⟩
theorem mQ (vb:Value)(bs:List Int)(w:World)(hb:Is .u8 w vb bs)(hl:bs.length≤1000000000):Calls Tryz.prog 18 #[vb] w (ScO w bs):=by
 have HB:=hide hb
 obtain⟨ao,cap,hvb,_,_⟩:=hb.shape
 rw[hvb]at HB
 subst hvb
 clear hb
 go_enter Tryz.func18,Tryz.ntmps18
 go_wp2
 go_loopw [4,5,6] (fun ov ev av wr=>∃(a:Nat) (ep:Int) (oa:Option Addr) (ok:Nat) (l:List Sw),a≤bs.length∧av=.int .i64 a∧ev=.int .i64 ep∧ov=.slice oa l.length ok∧Hid (xH w wr bs a (.slice oa l.length ok) l∧Orp.kg 0 (iq l)=ep)) (fun _ _ av _=>bs.length-(intOf av).toNat)
 case atStart=>exact⟨0,0,none,0,[],by omega,rfl,rfl,rfl,hide ⟨⟨jL.nil _ _,fun x hx=>by simp at hx,trivial,by simp[iq,Orp.secs],by simp[iq,Orp.secs],Below.refl _ _⟩,rfl⟩⟩
 case round=>
  obtain⟨a,ep,oa,ok,l,hle,rfl,rfl,rfl,M⟩:=hrel
  obtain⟨vs,hsl,eQ⟩:=(HB.out.below M.out.1.aF).gq Tryz.uh Tryz.xQ a hle
  have FR:=hide (ahU vs (bs.drop a) wr eQ (by rw[List.length_drop];omega))
  clear eQ
  go_wp2_with fail
  refine FR.out.mono ?_
  rintro E w9 ⟨x,n,g,rfl,H9⟩
  obtain⟨xa,xk,hxv,_,_⟩:=H9.out.1.c.row.shape
  have gG:=H9.out.2.2.2.2
  obtain⟨wb,hwb,aom,szb,zC,bb,k0,k1,k2⟩:=fJ w9 52 (.int .i64 0) (.int .i64 0) (.slice none 0 0) (.int .i64 x.e) (.int .i64 x.f) x.v
  have uj:Below wr.heap.size wr wb:=gG.trans (zC.mono gG.size)
  have HXV:=hide hxv
  have tL:=hide uj
  have BWB:Hid (Below w.heap.size w wb):=hide (M.out.1.aF.trans (uj.mono M.out.1.aF.size))
  have SX:=hide (H9.out.1.below zC)
  have apJ:=hide (M.out.1.own.below uj)
  have BLK:=hide bb
  rw[hxv]at hwb aom k2⊢
  clear FR hsl bb zC gG uj
  cases g with
  |false=>
   have FIN:Hid (Orp.Sn 0 bs (iq l)):=hide (M.out.1.no (by
    rcases H9.out.2.2.2.1 with⟨h1,_⟩|⟨_,h⟩
    ·simp at h1
    ·exact h))
   have HAT:=hide M.out.1.at'
   have HFT:=hide M.out.1.fit
   clear M H9 SX tL BLK
   go_wp2
   go_ret2
   exact⟨_,l,a,rfl,hide ⟨apJ.out,HFT.out,HAT.out,FIN.out,BWB.out⟩⟩
  |true=>
   by_cases hle2:x.e≤ep
   ·have FIN:Hid (Orp.Sn 0 bs (iq l)):=hide (M.out.1.low H9.out.2.2.2.1 (by rw[M.out.2];exact hle2))
    have HAT:=hide M.out.1.at'
    have HFT:=hide M.out.1.fit
    clear M H9 SX tL BLK
    go_wp2
    go_ret2
    exact⟨_,l,a,rfl,hide ⟨apJ.out,HFT.out,HAT.out,FIN.out,BWB.out⟩⟩
   ·have HCZ:Hid (Orp.chk x.s=0∧1≤n∧a+n≤bs.length):=hide (by
     rcases H9.out.2.2.2.1 with⟨_,h1,h2,h3⟩|⟨h1,_⟩
     ·have h4:=Orp.yf x.s
      have h5:=h2.length_le
      rw[List.length_drop]at h5
      exact⟨h1,by omega,by omega⟩
     ·simp at h1)
    have HLN:Hid (1≤x.rs.length∧x.rs.length≤1048576):=hide (by
     obtain⟨_,_,_,_,h5,h6,_⟩:=Orp.aO HCZ.out.1
     rw[show x.s.cs=ay x.rs from rfl,iI]at h5 h6
     exact⟨h5,h6⟩)
    have CP:=hide (ajl x.e x.f x.v x.rs wb SX.out.isC SX.out.f (by have:=HLN.out;omega) HLN.out.2)
    rw[hxv]at CP
    obtain⟨_,hn1,hn2⟩:=HCZ.out
    have LST:Hid (∀cs v,Orp.kg 0 (iq (l++[⟨x.e,x.f,v,cs⟩]))=x.e):=hide fun cs v=>by
     rw[qo,Orp.jE]
     rfl
    clear hxv
    go_wp2_with fail
    refine CP.out.mono ?_
    rintro E wc ⟨vc,cs,rfl,HC,ca,cn,ck,mX⟩
    have si:Below wr.heap.size wr wc:=tL.out.trans (HC.out.2.2.mono tL.out.size)
    obtain⟨V,hV,bf,jX,hpu⟩:=M.out.1.own.axt M.out.1.aF.size si ⟨x.e,x.f,vc,cs⟩ (HC.out.1.bu (b':=wr.heap.size) tL.out.size) ⟨H9.out.2.1,H9.out.2.2.1⟩ (by have:=M.out.1.len;omega)
    have hBW:(wc.heap[w9.heap.size]?)=some (.cells #[.int .i64 x.e,.int .i64 x.f,x.v] 52 (0,0)):=(HC.out.2.2.block _ (ax BLK.out)).trans BLK.out
    have XX:Hid (∀ty,∃v2 w2,(Builtin.append_ #[58,58] ty #[.slice oa l.length ok,.slice (some ⟨wc.heap.size,0,none⟩) 1 1]).run Tryz.prog V=.ok v2 w2∧(Hid (xH w w2 bs (a+n) v2 (l++[⟨x.e,x.f,vc,cs⟩]))∧w2.cell? ⟨w9.heap.size,0,none⟩=some (.int .i64 x.e)∧∃a k,v2=.slice a (l++[(⟨x.e,x.f,vc,cs⟩:Sw)]).length k)):=hide fun ty=>by
     obtain⟨v2,w2,h1,h2,h3,h4⟩:=hpu ty
     have hs:(⟨x.e,x.f,vc,cs⟩:Sw).s=x.s:=by
      show(⟨x.e,x.f,ay cs⟩:Orp.Se)=⟨x.e,x.f,ay x.rs⟩
      rw[HC.out.2.1]
     have rd:=H9.out.2.2.2.1
     rw[←hs]at rd
     obtain⟨sa,sk,hsv,_,_⟩:=h2.is.shape
     refine⟨v2,w2,h1,hide (M.out.1.next (x:=⟨x.e,x.f,vc,cs⟩) rd (by rw[M.out.2];show ep<x.e;omega) HC.out.1.f h2 ((M.out.1.aF.trans (si.mono M.out.1.aF.size)).trans h3.1)).1,?_,sa,sk,hsv⟩
     have hVW:=(bf.block _ (ax hBW)).trans hBW
     refine ai ((h3.2.block _ (ax hVW) fun e=>?_).trans hVW) 0 rfl
     have q1:=(World.ownsRow.lt M.out.1.own.r _ e.symm).2
     have q2:=H9.out.2.2.2.2.size
     omega
    subst mX
    clear CP M H9 SX tL BWB apJ BLK HXV szb HC si hpu bf jX hBW HCZ HLN
    go_wp2_with (at_builtin;refine jq rfl (.tmp 28) (.tmp 31) 58 rfl (.slice oa l.length ok) (.slice (some ⟨wc.heap.size,0,none⟩) 1 1) rfl rfl XX.out ?_)
    rintro v8 w8 MU t0 sa sk rfl
    have LS:=hide (LST.out cs (.slice ca cn ck))
    clear XX LST
    go_wp2
    go_roundw
    case rel=>exact⟨a+n,x.e,sa,sk,l++[⟨x.e,x.f,.slice ca cn ck,cs⟩],by omega,by go_num,rfl,by rw[List.length_append];rfl,hide ⟨by rw[List.length_append];exact MU.out,LS.out⟩⟩
    case measure=>simp[intOf];omega
end Go.Proofs.YtmngcecomcadkaaGreatDoor

/- Texts of one layer, one behind the other. -/
import Derived.Test.YtmngcecomcadkaaGreatDoorCH10
import Derived.Test.YtmngcecomcadkaaGreatDoorCH8
import Derived.Test.YtmngcecomcadkaaGreatDoorCH1
import Derived.Deep.RegionHeld3
import Derived.Test.YtmngcecomcadkaaGreatDoorCH6
import Derived.Test.YtmngcecomcadkaaGreatDoorCH4
set_option maxRecDepth 100000
set_option maxHeartbeats 8000000
namespace Go.Proofs.YtmngcecomcadkaaGreatDoor
open Go.RowKit
set_option linter.unusedVariables false
theorem Tryz.ay8 (a b c:Int)(w:World):(Instr.index 182 (.agg #[.int .i64 a,.int .i64 b,.int .i64 c]) (.int .i64 0)).run Tryz.prog w=.ok (.int .i64 a) w:=by kernel_rfl
theorem Tryz.axO (a b c:Int)(w:World):(Instr.index 182 (.agg #[.int .i64 a,.int .i64 b,.int .i64 c]) (.int .i64 1)).run Tryz.prog w=.ok (.int .i64 b) w:=by kernel_rfl
theorem Tryz.axK (a b c:Int)(w:World):(Instr.index 182 (.agg #[.int .i64 a,.int .i64 b,.int .i64 c]) (.int .i64 2)).run Tryz.prog w=.ok (.int .i64 c) w:=by kernel_rfl
theorem wY (z:Int)(h0:0≤z)(h1:z<9223372036854775808):IntKind.u64.wrap z=z:=by
 rw[IntKind.wrap_u64];omega
def hd3 (e f:Int) (n:Nat) (k:Nat):List Int:=([Vm.enc e.toNat,Vm.enc f.toNat,Vm.enc n].take k).flatten
theorem aiq (e f:Int)(v:Value)(rs:List Cw)(w:World)(h:fu w v rs)(he:0≤e∧e≤1048576)(hf:0≤f∧f≤1048576)(hl:rs.length≤1048576):
  Calls Tryz.prog 225 #[bK e f v] w fun E w'=>∃vb,E=.returned vb∧Own .u8 5 w.heap.size w' vb (Orp.hdr ⟨e,f,ay rs⟩)∧Below w.heap.size w w':=by
 unfold bK
 obtain⟨w1,hw1,aT,aj,hB⟩:=ak w #[.int .i64 e,.int .i64 f,v] 52
 have c0:w1.cell? ⟨w.heap.size,0,none⟩=some (.int .i64 e):=ai hB 0 rfl
 have c1:w1.cell? ⟨w.heap.size,1,none⟩=some (.int .i64 f):=ai hB 1 rfl
 have c2:w1.cell? ⟨w.heap.size,2,none⟩=some v:=ai hB 2 rfl
 obtain⟨ao,cap,hvl,hcap,hcm⟩:=h.shape
 have B1:=hide aj
 have HH:Hid (hd3 e f rs.length 3=Orp.hdr ⟨e,f,ay rs⟩):=hide (by
  unfold hd3 Orp.hdr
  simp[iI])
 rw[←HH.out]
 obtain⟨n,hn⟩:∃n,rs.length=n:=⟨_,rfl⟩
 rw[hn]at hvl hl⊢
 subst hvl
 have l1:=Cm.gy (x:=e) (by omega)
 have l2:=Cm.gy (x:=f) (by omega)
 obtain⟨he0,he1⟩:=he
 obtain⟨hf0,hf1⟩:=hf
 clear h hB aj HH hn hcap hcm
 go_enter Tryz.func225,Tryz.ntmps225
 go_wp2
 go_loopw [3,14] (fun bb kk wr=>∃k:Nat,k≤3∧kk=.int .i64 k∧Own .u8 5 w.heap.size wr bb (hd3 e f n k)∧Below w.heap.size w wr) (fun _ kk _=>4-(intOf kk).toNat)
 case atStart=>exact⟨0,by omega,rfl,Own.nil _ _ _ _,B1.out⟩
 case round=>
  obtain⟨k,hk,rfl,own,fC⟩:=hrel
  have szr:=fC.size
  clear c0 c1 c2
  rcases(show k=0∨k=1∨k=2∨k=3 by omega)with rfl|rfl|rfl|rfl
  ·have hix:=Tryz.ay8 e f n
   have hwr:=wY e (by omega) (by omega)
   have hln:(hd3 e f n 0).length≤9:=by simp[hd3]
   go_wp2_with fail
   refine(fO _ _ e _ own.is (by omega) (by omega) (by omega)).mono ?_
   rintro E w4 ⟨v4,rfl,aW,aK⟩
   have e':hd3 e f n 0++Vm.enc (e).toNat=hd3 e f n 1:=by simp[hd3]
   rw[e']at aW
   have dw:=aW.bu (base':=w.heap.size) (by omega)
   have aZ:=fC.trans (aK.mono (by omega))
   clear own aW e' aK hln
   go_wp2
   go_roundw
   case rel=>exact⟨1,by omega,rfl,dw,aZ⟩
   case measure=>simp[intOf]
  ·have hix:=Tryz.axO e f n
   have hwr:=wY f (by omega) (by omega)
   have hln:(hd3 e f n 1).length≤9:=by simp[hd3];omega
   go_wp2_with fail
   refine(fO _ _ f _ own.is (by omega) (by omega) (by omega)).mono ?_
   rintro E w4 ⟨v4,rfl,aW,aK⟩
   have e':hd3 e f n 1++Vm.enc (f).toNat=hd3 e f n 2:=by simp[hd3]
   rw[e']at aW
   have dw:=aW.bu (base':=w.heap.size) (by omega)
   have aZ:=fC.trans (aK.mono (by omega))
   clear own aW e' aK hln
   go_wp2
   go_roundw
   case rel=>exact⟨2,by omega,rfl,dw,aZ⟩
   case measure=>simp[intOf]
  ·have hix:=Tryz.axK e f n
   have hwr:=wY (n:Int) (by omega) (by omega)
   have hln:(hd3 e f n 2).length≤9:=by simp[hd3];omega
   go_wp2_with fail
   refine(fO _ _ (n:Int) _ own.is (by omega) (by omega) (by omega)).mono ?_
   rintro E w4 ⟨v4,rfl,aW,aK⟩
   have e':hd3 e f n 2++Vm.enc ((n:Int)).toNat=hd3 e f n 3:=by simp[hd3]
   rw[e']at aW
   have dw:=aW.bu (base':=w.heap.size) (by omega)
   have aZ:=fC.trans (aK.mono (by omega))
   clear own aW e' aK hln
   go_wp2
   go_roundw
   case rel=>exact⟨3,by omega,rfl,dw,aZ⟩
   case measure=>simp[intOf]
  ·go_wp2
   go_ret
   exact⟨_,rfl,own,fC⟩
theorem xu (v:Value)(r:List Int)(w:World)(h:Is .u8 w v r)(hl:r.length≤131072):
  Calls Tryz.prog 224 #[v] w fun E w'=>∃vb,E=.returned vb∧Own .u8 5 w.heap.size w' vb (Fm.bT r)∧Below w.heap.size w w':=by
 have HF:=hide (uK (.slice none 0 0) v [] r w (Is.nil _ _) h (by simp) (by omega))
 rw[show wN r=0 by unfold wN;rw[if_pos hl],show xK [] r=Fm.bT r by unfold xK;rw[if_pos hl];rfl]at HF
 obtain⟨ab,cb,hvb,_,_⟩:=h.shape
 rw[hvb]at HF
 subst hvb
 clear h
 go_enter Tryz.func224,Tryz.ntmps224
 go_wp2_with fail
 refine HF.out.mono ?_
 rintro E w3 ⟨vf,rfl,bD,aD⟩
 obtain⟨af,cf,hvf,_,_⟩:=bD.is.shape
 have O3:=hide bD
 have B3:=hide aD
 subst hvf
 clear bD aD HF
 go_wp2
 go_ret
 exact⟨_,rfl,O3.out,B3.out⟩
theorem amt (e f:Int)(v:Value)(rs:List Cw)(w:World)(h:di w v rs)(hf:dL rs)(hl:rs.length≤140737488355328):
  Calls Tryz.prog 202 #[bK e f v] w fun E w'=>∃vb,E=.returned (.tuple #[vb,.int .i64 (Orp.chk ⟨e,f,ay rs⟩)])∧Own .u8 5 w.heap.size w' vb (Orp.out ⟨e,f,ay rs⟩)∧Below w.heap.size w w':=by
 obtain⟨w1,hw1,aT,aj,hB⟩:=ak w #[.int .i64 e,.int .i64 f,v] 52
 have c0:w1.cell? ⟨w.heap.size,0,none⟩=some (.int .i64 e):=ai hB 0 rfl
 have c1:w1.cell? ⟨w.heap.size,1,none⟩=some (.int .i64 f):=ai hB 1 rfl
 have c2:w1.cell? ⟨w.heap.size,2,none⟩=some v:=ai hB 2 rfl
 have HM:=hide (vX e f v rs w1 (h.below aj) hf hl)
 obtain⟨ao,cap,hvl,_,_⟩:=h.1.shape
 obtain⟨ch,hch⟩:∃x,Orp.chk ⟨e,f,ay rs⟩=x:=⟨_,rfl⟩
 rw[hch]at HM⊢
 have HA:=hide hch
 have HF:=hide hf
 have afH:Hid (∀W,Below w.heap.size w W→fu W v rs):=hide fun W hW=>(h.below hW).1
 have CE:Hid (∀W,Below w1.heap.size w1 W→W.cell? ⟨w.heap.size,0,none⟩=some (.int .i64 e)∧W.cell? ⟨w.heap.size,1,none⟩=some (.int .i64 f)∧W.cell? ⟨w.heap.size,2,none⟩=some v):=hide fun W hb=>
  ⟨(hb.cell (p:=⟨w.heap.size,0,none⟩) (show w.heap.size<w1.heap.size by omega)).trans c0,(hb.cell (p:=⟨w.heap.size,1,none⟩) (show w.heap.size<w1.heap.size by omega)).trans c1,(hb.cell (p:=⟨w.heap.size,2,none⟩) (show w.heap.size<w1.heap.size by omega)).trans c2⟩
 have FULL:Hid (∀(i:Nat) (W:World),i<rs.length→Below w.heap.size w W→∃b off,v=.slice (some ⟨b,off,none⟩) rs.length cap∧∃c,rs[i]? =some c∧W.cell? ⟨b,off+i*3,none⟩=some (.int .i64 c.e)∧W.cell? ⟨b,off+i*3+1,none⟩=some (.int .i64 c.n)∧W.cell? ⟨b,off+i*3+2,none⟩=some c.v∧dh W c.v c.l∧∃a n q,c.v=.slice a n q):=hide fun i W hi hW=>by
  obtain⟨b,off,cap',hv,_,_,hb,hcell⟩:=h.1.full (by omega)
  rw[hvl]at hv
  simp only[Value.slice.injEq,true_and]at hv
  obtain⟨rfl,rfl⟩:=hv
  obtain⟨c,hc⟩:∃c,rs[i]? =some c:=⟨rs[i],List.getElem?_eq_getElem hi⟩
  obtain⟨d0,d1,d2⟩:=hcell i c hc
  have kT:=(h.2 c (List.mem_of_getElem? hc)).1
  obtain⟨a1,q1,ha,_,_⟩:=kT.shape
  exact⟨b,off,hvl,c,hc,(hW.cell (p:=⟨b,off+i*3,none⟩) hb).trans d0,(hW.cell (p:=⟨b,off+i*3+1,none⟩) hb).trans d1,(hW.cell (p:=⟨b,off+i*3+2,none⟩) hb).trans d2,kT.below hW,a1,_,q1,ha⟩
 have B1:=hide aj
 unfold bK at HM⊢
 rw[hvl]at HM CE FULL afH c2 hw1
 subst hvl
 clear h hf hch hB aj
 go_enter Tryz.func202,Tryz.ntmps202
 go_wp2_with fail
 refine HM.out.mono ?_
 rintro E w2 ⟨rfl,au⟩
 have dz:=au.size
 clear c0 c1 c2 HM
 by_cases h0:ch=0
 ·subst h0
  have HZ:=hide (Orp.aO HA.out)
  obtain⟨g1,g2,g3,g4,g5,g6,_⟩:=HZ.out
  simp only at g1 g2 g3 g4 g5 g6
  rw[iI]at g5 g6
  obtain⟨d0,d1,d2⟩:=CE.out w2 au
  have B2:=hide (B1.out.trans (au.mono (by omega)))
  have HH:=hide (aiq e f _ rs w2 (afH.out w2 B2.out) ⟨by omega,g2⟩ ⟨g3,g4⟩ g6)
  unfold bK at HH
  clear afH
  go_wp2_with fail
  refine HH.out.mono ?_
  rintro E w3 ⟨v3,rfl,bD,aD⟩
  have b3:=au.trans (aD.mono dz)
  have cB:=b3.size
  obtain⟨a3,k3,hv3,_,_⟩:=bD.is.shape
  have lh:(Orp.hdr ⟨e,f,ay rs⟩).length≤9:=Orp.wJ HA.out
  have APP:=hide (xu v3 (Orp.hdr ⟨e,f,ay rs⟩) w3 bD.is (by omega))
  rw[hv3]at APP
  subst hv3
  clear d0 d1 d2 au aD bD HH B2
  go_wp2_with fail
  refine APP.out.mono ?_
  rintro E w6 ⟨v6,rfl,eT,eB⟩
  have b6:=b3.trans (eB.mono cB)
  have O6:=hide (eT.bu (base':=w1.heap.size) (by omega))
  have LF:Hid ((Fm.bT (Orp.hdr ⟨e,f,ay rs⟩)).length≤10):=hide (by
   rw[Fm.kJ]
   have:Vm.sz (Orp.hdr ⟨e,f,ay rs⟩).length≤1:=Vm.nT 0 _ (by omega)
   omega)
  obtain⟨d0,d1,d2⟩:=CE.out w6 b6
  clear eT eB b3 APP lh
  go_wp2
  go_loopw [5,21] (fun bb kk wr=>∃k:Nat,k≤rs.length∧kk=.int .i64 k∧Hid (Own .u8 5 w1.heap.size wr bb (Fm.bT (Orp.hdr ⟨e,f,ay rs⟩)++Wl.aR (ay (rs.take k))))∧Below w1.heap.size w1 wr) (fun _ kk _=>rs.length-(intOf kk).toNat)
  case atStart=>exact⟨0,by omega,rfl,hide (by simpa[ay,Wl.aR,Fm.cat]using O6.out),b6⟩
  case round=>
   obtain⟨k,hk,rfl,OK,aiK⟩:=hrel
   have szk:=aiK.size
   have aF:=B1.out.trans (aiK.mono (by omega))
   clear d0 d1 d2 O6 b6
   by_cases hlt:k<rs.length
   ·obtain⟨b,off,iw,c,hc,d0,d1,d2,kT,ca,cn,cq,hcv⟩:=FULL.out k wr hlt aF
    simp only[Value.slice.injEq,and_true]at iw
    have hcm:=List.mem_of_getElem? hc
    have hck:Cm.chk c.e c.n c.l=0:=HZ.out.2.2.2.2.2.2.2.2 c.c (by show c.c∈ay rs;exact List.mem_of_getElem? (ahJ hc))
    obtain⟨hfo,hfl⟩:=HF.out c hcm
    have LE:Hid ((Fm.bT (Orp.hdr ⟨e,f,ay rs⟩)++Wl.aR (ay (rs.take k))).length≤1000000000):=hide (by
     have h1:=Orp.vW (l:=ay (rs.take k)) fun x hx=>by
      have:x∈ay rs:=by
       unfold ay at hx⊢
       rw[List.map_take]at hx
       exact List.mem_of_mem_take hx
      exact HZ.out.2.2.2.2.2.2.2.2 x this
     rw[iI,List.length_take]at h1
     have h2:=LF.out
     rw[List.length_append]
     omega)
    have NX:=hide (aoh hc)
    obtain⟨wa,hwa,zP,sza,jJ,bA,x0,x1,x2⟩:=fJ wr 35 (.int .i64 0) (.int .i64 0) (.slice none 0 0) (.int .i64 c.e) (.int .i64 c.n) c.v
    have FR:=hide (af8 c.e c.n c.v c.l wa (kT.below jJ) hfo (by omega))
    have hcr:Cm.out c.e c.n c.l=Wl.rec ⟨c.e,c.n,c.l⟩:=Cm.jd hck
    rw[hck,hcr]at FR
    have lrc:=Wl.xG (c:=⟨c.e,c.n,c.l⟩) hck
    have lfr:=Wl.nN (c:=⟨c.e,c.n,c.l⟩) hck
    have hlt':(k:Int)<rs.length:=by omega
    unfold bK at FR
    rw[hcv]at d2 FR x2 hwa zP
    have OKa:=hide (OK.out.below jJ)
    have ba:=aiK.trans (jJ.mono szk)
    subst iw
    clear kT hcm hck hc hcv hfo hfl hcr bA jJ OK aiK
    go_wp2_with fail
    refine FR.out.mono ?_
    rintro E w7 ⟨v7,rfl,je,iV⟩
    obtain⟨a7,k7,hv7,_,_⟩:=je.is.shape
    have b7:=ba.trans (iV.mono ba.size)
    have OK7:=hide (OKa.out.below iV)
    have FD:=hide (xu v7 (Wl.rec ⟨c.e,c.n,c.l⟩) w7 je.is (by omega))
    rw[show Fm.bT (Wl.rec ⟨c.e,c.n,c.l⟩)=Wl.fr ⟨c.e,c.n,c.l⟩from rfl,hv7]at FD
    subst hv7
    clear je iV FR OKa ba x0 x1 x2 d0 d1 d2 aF
    go_wp2_with fail
    refine FD.out.mono ?_
    rintro E w8 ⟨v8,rfl,pE,lD⟩
    have OKb:=hide (OK7.out.below lD)
    have b8:=b7.trans (lD.mono b7.size)
    have s8:=b8.size
    have I8:=hide pE.is
    have hsum:((Fm.bT (Orp.hdr ⟨e,f,ay rs⟩)++Wl.aR (ay (rs.take k))).length+(Wl.fr ⟨c.e,c.n,c.l⟩).length)*1≤150000000000000:=by have:=LE.out;omega
    clear pE lD FD OK7 LE lfr lrc b7
    go_wp2_with (at_builtin;refine bP rfl (.tmp 30) (.tmp 32) 61 rfl .u8 5 w1.heap.size 1 Tryz.underlying61 Tryz.info5 (by decide) _ _ rfl OKb.out _ _ rfl I8.out hsum s8 ?_)
    intro v9 w9 abo gG gr9
    have O9:Hid (Own .u8 5 w1.heap.size w9 v9 (Fm.bT (Orp.hdr ⟨e,f,ay rs⟩)++Wl.aR (ay (rs.take (k+1))))):=hide (by
     rw[NX.out,aT]
     exact abo)
    rw[←aT]at gG
    have b9:=b8.trans gG
    clear abo gG gr9 b8 OKb I8 NX hsum
    go_wp2
    go_roundw
    case rel=>exact⟨k+1,by omega,by go_num,O9,b9⟩
    case measure=>simp[intOf];omega
   ·have hlt':¬(k:Int)<rs.length:=by omega
    have OW:Hid (Own .u8 5 w.heap.size wr u5 (Orp.out ⟨e,f,ay rs⟩)):=hide (by
     rw[Orp.jd HA.out]
     have:=OK.out
     rw[List.take_of_length_le (by omega)]at this
     exact this.bu (by omega))
    clear OK
    go_wp2
    go_ret2
    exact⟨_,rfl,OW.out,aF⟩
 ·have hne:(ch !=0)=true:=by simp[h0]
  have HO:Hid (Orp.out ⟨e,f,ay rs⟩=[]):=hide (Orp.oh (by rw[HA.out];exact h0))
  have B2:=B1.out.trans (au.mono (by omega))
  go_wp2
  go_ret2
  exact⟨_,rfl,by rw[HO.out];exact Own.nil _ _ _ _,B2⟩
def avM (w:World) (bs:List Int) (E:Ending) (w':World):Prop:=
 ∃(x:Sw) (n:Nat) (g:Bool),E=.returned (.tuple #[.agg #[.int .i64 x.e,.int .i64 x.f,x.v],.int .i64 n,.bool g])∧Hid (fT w.heap.size w' x.v x.rs∧In64 x.e∧In64 x.f∧Orp.Rd bs x.s n g∧Below w.heap.size w w')
theorem yl {w w':World}{bs:List Int}(hb:Below w.heap.size w w')(hn:Orp.No bs):avM w bs (.returned (.tuple #[.agg #[.int .i64 0,.int .i64 0,.slice none 0 0],.int .i64 0,.bool false])) w':=
 ⟨⟨0,0,.slice none 0 0,[]⟩,0,false,rfl,hide ⟨fT.nil _ _,by simp[In64],by simp[In64],.inr ⟨rfl,hn⟩,hb⟩⟩
structure MdO (w wr:World) (bs:List Int) (S x y m a:Nat) (v:Value) (cs:List Cw):Prop where
 blk:wr.heap[S]? =some (.cells #[.int .i64 x,.int .i64 y,v] 52 (0,0))
 r0:wr.heap[w.heap.size]? =some (.cells #[.int .i64 0,.int .i64 0,.slice none 0 0] 52 (0,0))
 lt:w.heap.size<S
 sh:fT (S+1) wr v cs
 aF:Below w.heap.size w wr
 hh:Fm.bT (Vm.enc x++(Vm.enc y++Vm.enc m))<+:bs
 hl:Wl.aR (ay cs)<+:bs.drop (Fm.bT (Vm.enc x++(Vm.enc y++Vm.enc m))).length
 hc:∀c∈ay cs,Cm.chk c.e c.n c.l=0
 at':a=(Fm.bT (Vm.enc x++(Vm.enc y++Vm.enc m))).length+(Wl.aR (ay cs)).length
 len:cs.length≤m
 num:x≤1048576∧y≤1048576∧m≤1048576
theorem aeL {bs:List Int}{x y m a:Nat}{cs:List Cw}{r:List Int}{n:Nat}{e k:Int}{l:List Bm.Ov}{v':Value}
  (hl:Wl.aR (ay cs)<+:bs.drop (Fm.bT (Vm.enc x++(Vm.enc y++Vm.enc m))).length) (hc:∀c∈ay cs,Cm.chk c.e c.n c.l=0) (ha:a=(Fm.bT (Vm.enc x++(Vm.enc y++Vm.enc m))).length+(Wl.aR (ay cs)).length)
  (hr:Fm.Rd (bs.drop a) r n 0) (hd:Cm.pg r e k l 0):Cm.chk e k l=0∧1≤n∧a+n≤bs.length∧Wl.aR (ay (cs++[⟨e,k,v',l⟩]))<+:bs.drop (Fm.bT (Vm.enc x++(Vm.enc y++Vm.enc m))).length∧(∀c∈ay (cs++[⟨e,k,v',l⟩]),Cm.chk c.e c.n c.l=0)∧
   a+n=(Fm.bT (Vm.enc x++(Vm.enc y++Vm.enc m))).length+(Wl.aR (ay (cs++[⟨e,k,v',l⟩]))).length:=by
 rcases hr with⟨_,_,hn,hp⟩|⟨h1,_⟩
 ·rcases hd with⟨_,hk,he⟩|⟨h1,_⟩
  ·have hcv:ay (cs++[⟨e,k,v',l⟩])=ay cs++[⟨e,k,l⟩]:=by simp[ay,Cw.c]
   have hfr:Wl.fr ⟨e,k,l⟩=Fm.bT r:=by unfold Wl.fr Wl.rec;rw[he]
   have hln:(Fm.bT r).length=n:=by rw[Fm.kJ,hn]
   have h1:=Fm.ahw r
   have h2:=hp.length_le
   rw[List.length_drop]at h2
   refine⟨hk,by omega,by omega,?_,fun c hcc=>?_,?_⟩
   ·rw[hcv,Wl.kL,Wl.yt,hfr,Bm.bz,List.drop_drop,←ha]
    exact⟨hl,hp⟩
   ·rw[hcv]at hcc
    rcases List.mem_append.1 hcc with hcc|hcc
    ·exact hc c hcc
    ·rw[List.mem_singleton.1 hcc];exact hk
   ·rw[hcv,Wl.kL,Wl.yt,hfr,List.length_append,hln]
    omega
  ·simp at h1
 ·simp at h1
theorem qw {S:Nat}{t:TypeId}{a b c:Value}(W:World)(h:W.heap[S]? =some (.cells #[a,b,c] t (0,0))):(W.setCell ⟨S,0,none⟩ a=W∧W.setCell ⟨S,1,none⟩ b=W∧W.setCell ⟨S,2,none⟩ c=W)∧(W.frozen? ⟨S,0,none⟩=false∧W.frozen? ⟨S,1,none⟩=false∧W.frozen? ⟨S,2,none⟩=false)∧(W.cell? ⟨S,0,none⟩=some a∧W.cell? ⟨S,1,none⟩=some b∧W.cell? ⟨S,2,none⟩=some c):=
 ⟨⟨aJ h (j:=0) rfl,aJ h (j:=1) rfl,aJ h (j:=2) rfl⟩,⟨aA h 0,aA h 1,aA h 2⟩,ai h 0 rfl,ai h 1 rfl,ai h 2 rfl⟩
theorem aeD {V:World}{R:Nat}{t:TypeId}{cs:Array Value}(hR:V.heap[R]? =some (.cells cs t (0,0)))(k:Nat)(c:Value)(hk:k<cs.size):
  ∃V',V.setCell ⟨R,k,none⟩ c=V'∧V'.heap[R]? =some (.cells (cs.setIfInBounds k c) t (0,0))∧V.grownBy V' (some R)∧V.cell? ⟨R,k,none⟩=some cs[k]∧V.frozen? ⟨R,k,none⟩=false:=by
 obtain⟨V',h1,h2,h3,h4⟩:=aqt hR k c
 exact⟨V',h1,h2,h3,ai hR k (Array.getElem?_eq_getElem hk),h4⟩
structure HI (bs:List Int) (w wr:World) (k x y m a:Nat):Prop where
 res:wr.heap[w.heap.size]? =some (.cells #[.int .i64 0,.int .i64 0,.slice none 0 0] 52 (0,0))
 num:wr.heap[w.heap.size+1]? =some (.cells #[.int .i64 x,.int .i64 y,.int .i64 m] 182 (0,0))
 aF:Below w.heap.size w wr
 at':a=(if 1≤k then Vm.sz x else 0)+(if 2≤k then Vm.sz y else 0)+(if 3≤k then Vm.sz m else 0)
 h1:1≤k→x≤1048576∧Vm.enc x<+:bs
 h2:2≤k→y≤1048576∧Vm.enc y<+:bs.drop (Vm.sz x)
 h3:3≤k→m≤1048576∧Vm.enc m<+:bs.drop (Vm.sz x+Vm.sz y)
theorem HI.le {bs:List Int}{w wr:World}{k x y m a:Nat}(h:HI bs w wr k x y m a):a≤bs.length:=by
 have e:=h.at'
 by_cases q3:3≤k
 ·have p3:=(h.h3 q3).2.length_le
  have p2:=(h.h2 (by omega)).2.length_le
  have p1:=(h.h1 (by omega)).2.length_le
  rw[if_pos (by omega),if_pos (by omega),if_pos q3]at e
  rw[List.length_drop]at p2 p3
  have e1:=(show(Vm.enc x).length=Vm.sz x from rfl);have e2:=(show(Vm.enc y).length=Vm.sz y from rfl);have e3:=(show(Vm.enc m).length=Vm.sz m from rfl)
  omega
 ·rw[if_neg q3]at e
  by_cases q2:2≤k
  ·have p2:=(h.h2 q2).2.length_le
   have p1:=(h.h1 (by omega)).2.length_le
   rw[if_pos (by omega),if_pos q2]at e
   rw[List.length_drop]at p2
   have e1:=(show(Vm.enc x).length=Vm.sz x from rfl);have e2:=(show(Vm.enc y).length=Vm.sz y from rfl)
   omega
  ·rw[if_neg q2]at e
   by_cases q1:1≤k
   ·have p1:=(h.h1 q1).2.length_le
    rw[if_pos q1]at e
    have e1:=(show(Vm.enc x).length=Vm.sz x from rfl)
    omega
   ·rw[if_neg q1]at e
    omega
theorem HI.base {bs:List Int}{w wr V:World}{k x y m a:Nat}{cs:Array Value}(h:HI bs w wr k x y m a)(hV:V.heap[w.heap.size+1]? =some (.cells cs 182 (0,0)))(gV:wr.grownBy V (some (w.heap.size+1))):
  V.heap[w.heap.size]? =some (.cells #[.int .i64 0,.int .i64 0,.slice none 0 0] 52 (0,0))∧Below w.heap.size w V:=
 ⟨(gV.block _ (ax h.res) (by simp)).trans h.res,aB h.aF gV (by omega) h.aF.size⟩
theorem HI.axb {bs:List Int}{w wr V:World}{x y m a z:Nat}(h:HI bs w wr 0 x y m a)(hz:z≤1048576)(hp:Vm.enc z<+:bs.drop a)(hV:V.heap[w.heap.size+1]? =some (.cells ((#[.int .i64 x,.int .i64 y,.int .i64 m]:Array Value).setIfInBounds 0 (.int .i64 z)) 182 (0,0)))(gV:wr.grownBy V (some (w.heap.size+1))):HI bs w V 1 z y m (a+Vm.sz z):=by
 have e:a=0:=by simpa using h.at'
 subst e
 exact⟨(h.base hV gV).1,hV,(h.base hV gV).2,by simp,fun _=>⟨hz,by simpa using hp⟩,fun q=>by omega,fun q=>by omega⟩
theorem HI.axi {bs:List Int}{w wr V:World}{x y m a z:Nat}(h:HI bs w wr 1 x y m a)(hz:z≤1048576)(hp:Vm.enc z<+:bs.drop a)(hV:V.heap[w.heap.size+1]? =some (.cells ((#[.int .i64 x,.int .i64 y,.int .i64 m]:Array Value).setIfInBounds 1 (.int .i64 z)) 182 (0,0)))(gV:wr.grownBy V (some (w.heap.size+1))):HI bs w V 2 x z m (a+Vm.sz z):=by
 have e:a=Vm.sz x:=by simpa using h.at'
 subst e
 exact⟨(h.base hV gV).1,hV,(h.base hV gV).2,by simp,fun _=>h.h1 (by omega),fun _=>⟨hz,hp⟩,fun q=>by omega⟩
theorem HI.axe {bs:List Int}{w wr V:World}{x y m a z:Nat}(h:HI bs w wr 2 x y m a)(hz:z≤1048576)(hp:Vm.enc z<+:bs.drop a)(hV:V.heap[w.heap.size+1]? =some (.cells ((#[.int .i64 x,.int .i64 y,.int .i64 m]:Array Value).setIfInBounds 2 (.int .i64 z)) 182 (0,0)))(gV:wr.grownBy V (some (w.heap.size+1))):HI bs w V 3 x y z (a+Vm.sz z):=by
 have e:a=Vm.sz x+Vm.sz y:=by simpa using h.at'
 subst e
 exact⟨(h.base hV gV).1,hV,(h.base hV gV).2,by simp,fun _=>h.h1 (by omega),fun _=>h.h2 (by omega),fun _=>⟨hz,hp⟩⟩
theorem HI.no0 {bs:List Int}{w wr:World}{x y m a:Nat}(h:HI bs w wr 0 x y m a)(hn:∀u:Nat,u≤1048576→¬Vm.enc u<+:bs.drop a):Orp.zo bs:=by
 have e:a=0:=by simpa using h.at'
 subst e
 exact Orp.axX (by simpa using hn)
theorem HI.no1 {bs:List Int}{w wr:World}{x y m a:Nat}(h:HI bs w wr 1 x y m a)(hn:∀u:Nat,u≤1048576→¬Vm.enc u<+:bs.drop a):Orp.zo bs:=by
 have e:a=Vm.sz x:=by simpa using h.at'
 subst e
 exact Orp.ax6 (h.h1 (by omega)).2 hn
theorem HI.no2 {bs:List Int}{w wr:World}{x y m a:Nat}(h:HI bs w wr 2 x y m a)(hn:∀u:Nat,u≤1048576→¬Vm.enc u<+:bs.drop a):Orp.zo bs:=by
 have e:a=Vm.sz x+Vm.sz y:=by simpa using h.at'
 subst e
 exact Orp.axZ (h.h1 (by omega)).2 (h.h2 (by omega)).2 hn
def HdR (bs:List Int) (x y m:Nat) (g:Bool):Prop:=(g=true∧(x≤1048576∧y≤1048576∧m≤1048576)∧Vm.enc x++(Vm.enc y++Vm.enc m)=bs)∨(g=false∧Orp.zo bs)
theorem an8 (vb:Value)(bs:List Int)(w:World)(hb:Is .u8 w vb bs)(hl:bs.length≤140737488355328):
  Calls Tryz.prog 91 #[vb] w fun E w'=>∃(x y m:Nat) (g:Bool),E=.returned (.tuple #[.agg #[.int .i64 x,.int .i64 y,.slice none 0 0],.int .i64 m,.bool g])∧Hid (HdR bs x y m g)∧Below w.heap.size w w':=by
 obtain⟨w1,hw1,aT,aj,jF⟩:=ak w #[.int .i64 0,.int .i64 0,.slice none 0 0] 52
 obtain⟨w2,hw2,dz,au,hN2⟩:=ak w1 #[.int .i64 0,.int .i64 0,.int .i64 0] 182
 have hR2:=(au.block _ (ax jF)).trans jF
 rw[aT]at hN2
 have aL:=aj.trans (au.mono (by omega))
 have D0:Hid (HI bs w w2 0 0 0 0 0):=hide ⟨hR2,hN2,aL,by simp,fun q=>by omega,fun q=>by omega,fun q=>by omega⟩
 have HB:=hide hb
 have hlen:=hb.ag1 Tryz.uh
 have ZERO:Hid (∀W:World,W.heap[w.heap.size]? =some (.cells #[.int .i64 0,.int .i64 0,.slice none 0 0] 52 (0,0))→_):=hide fun W h=>qw W h
 obtain⟨ao,cap,hvb,_,_⟩:=hb.shape
 rw[hvb]at HB
 subst hvb
 clear jF hR2 hN2 aj au aL hb
 go_enter Tryz.func91,Tryz.ntmps91
 go_wp2
 go_loopw [6,11] (fun ee kk wr=>∃(k a x y m:Nat),k≤3∧kk=.int .i64 k∧ee=.int .i64 a∧Hid (HI bs w wr k x y m a)) (fun _ kk _=>4-(intOf kk).toNat)
 case atStart=>exact⟨0,0,0,0,0,by omega,rfl,rfl,D0⟩
 case round=>
  obtain⟨k,a,x,y,m,hk,rfl,rfl,D⟩:=hrel
  have hal:=D.out.le
  have kM:=ax D.out.res
  clear D0
  rcases(show k=0∨k=1∨k=2∨k=3 by omega)with rfl|rfl|rfl|rfl
  ·obtain⟨vs,hsl,eQ⟩:=(HB.out.below D.out.aF).gq Tryz.uh Tryz.xQ a hal
   obtain⟨u,i,g,hS⟩:=nD (bs.drop a) ((1048576:Nat):Int)
   have SM:=hide (jZ vs (bs.drop a) 1048576 u i g wr eQ (by rw[List.length_drop];omega) (by omega) (by omega) hS)
   have ST:=hide (rP (most:=1048576) (by omega) hS)
   clear eQ hS
   go_wp2_with fail
   refine SM.out.mono ?_
   rintro E w4 ⟨rfl,rfl⟩
   clear hsl SM
   rcases ST.out with⟨z,rfl,rfl,rfl,hz,hp⟩|⟨rfl,rfl,rfl,hn⟩
   ·have aoi:=Vm.kH (x:=z) (by omega)
    have hwr:=aS ((a:Int)+(Vm.sz z:Int)) (by omega) (by omega)
    obtain⟨V,hV,bV,gV,cz,fz⟩:=aeD D.out.num 0 (.int .i64 z) (by simp)
    have DN:Hid (HI bs w V 1 z y m (a+Vm.sz z)):=hide (D.out.axb hz hp bV gV)
    clear bV gV hp D ST
    go_wp2
    go_roundw
    case rel=>exact⟨1,a+Vm.sz z,z,y,m,by omega,rfl,by go_num,DN⟩
    case measure=>simp[intOf]
   ·have HN:=hide (D.out.no0 hn)
    obtain⟨⟨s0,s1,s2⟩,⟨f0,f1,f2⟩,z0,z1,z2⟩:=ZERO.out wr D.out.res
    have BB:=hide D.out.aF
    clear hn D ST
    go_wp2
    refine bodyPost_ret (v:=.tuple #[.agg #[.int .i64 0,.int .i64 0,.slice none 0 0],.int .i64 0,.bool false]) (by simp[results,Tryz.results91,go_sem,z0,z1,z2]) rfl ?_
    exact⟨0,0,0,false,rfl,hide (.inr ⟨rfl,HN.out⟩),BB.out⟩
  ·obtain⟨vs,hsl,eQ⟩:=(HB.out.below D.out.aF).gq Tryz.uh Tryz.xQ a hal
   obtain⟨u,i,g,hS⟩:=nD (bs.drop a) ((1048576:Nat):Int)
   have SM:=hide (jZ vs (bs.drop a) 1048576 u i g wr eQ (by rw[List.length_drop];omega) (by omega) (by omega) hS)
   have ST:=hide (rP (most:=1048576) (by omega) hS)
   clear eQ hS
   go_wp2_with fail
   refine SM.out.mono ?_
   rintro E w4 ⟨rfl,rfl⟩
   clear hsl SM
   rcases ST.out with⟨z,rfl,rfl,rfl,hz,hp⟩|⟨rfl,rfl,rfl,hn⟩
   ·have aoi:=Vm.kH (x:=z) (by omega)
    have hwr:=aS ((a:Int)+(Vm.sz z:Int)) (by omega) (by omega)
    obtain⟨V,hV,bV,gV,cz,fz⟩:=aeD D.out.num 1 (.int .i64 z) (by simp)
    have DN:Hid (HI bs w V 2 x z m (a+Vm.sz z)):=hide (D.out.axi hz hp bV gV)
    clear bV gV hp D ST
    go_wp2
    go_roundw
    case rel=>exact⟨2,a+Vm.sz z,x,z,m,by omega,rfl,by go_num,DN⟩
    case measure=>simp[intOf]
   ·have HN:=hide (D.out.no1 hn)
    obtain⟨⟨s0,s1,s2⟩,⟨f0,f1,f2⟩,z0,z1,z2⟩:=ZERO.out wr D.out.res
    have BB:=hide D.out.aF
    clear hn D ST
    go_wp2
    refine bodyPost_ret (v:=.tuple #[.agg #[.int .i64 0,.int .i64 0,.slice none 0 0],.int .i64 0,.bool false]) (by simp[results,Tryz.results91,go_sem,z0,z1,z2]) rfl ?_
    exact⟨0,0,0,false,rfl,hide (.inr ⟨rfl,HN.out⟩),BB.out⟩
  ·obtain⟨vs,hsl,eQ⟩:=(HB.out.below D.out.aF).gq Tryz.uh Tryz.xQ a hal
   obtain⟨u,i,g,hS⟩:=nD (bs.drop a) ((1048576:Nat):Int)
   have SM:=hide (jZ vs (bs.drop a) 1048576 u i g wr eQ (by rw[List.length_drop];omega) (by omega) (by omega) hS)
   have ST:=hide (rP (most:=1048576) (by omega) hS)
   clear eQ hS
   go_wp2_with fail
   refine SM.out.mono ?_
   rintro E w4 ⟨rfl,rfl⟩
   clear hsl SM
   rcases ST.out with⟨z,rfl,rfl,rfl,hz,hp⟩|⟨rfl,rfl,rfl,hn⟩
   ·have aoi:=Vm.kH (x:=z) (by omega)
    have hwr:=aS ((a:Int)+(Vm.sz z:Int)) (by omega) (by omega)
    obtain⟨V,hV,bV,gV,cz,fz⟩:=aeD D.out.num 2 (.int .i64 z) (by simp)
    have DN:Hid (HI bs w V 3 x y z (a+Vm.sz z)):=hide (D.out.axe hz hp bV gV)
    clear bV gV hp D ST
    go_wp2
    go_roundw
    case rel=>exact⟨3,a+Vm.sz z,x,y,z,by omega,rfl,by go_num,DN⟩
    case measure=>simp[intOf]
   ·have HN:=hide (D.out.no2 hn)
    obtain⟨⟨s0,s1,s2⟩,⟨f0,f1,f2⟩,z0,z1,z2⟩:=ZERO.out wr D.out.res
    have BB:=hide D.out.aF
    clear hn D ST
    go_wp2
    refine bodyPost_ret (v:=.tuple #[.agg #[.int .i64 0,.int .i64 0,.slice none 0 0],.int .i64 0,.bool false]) (by simp[results,Tryz.results91,go_sem,z0,z1,z2]) rfl ?_
    exact⟨0,0,0,false,rfl,hide (.inr ⟨rfl,HN.out⟩),BB.out⟩
  ·have e:a=Vm.sz x+Vm.sz y+Vm.sz m:=by simpa using D.out.at'
   by_cases hae:a=bs.length
   ·have hab:((a:Int) !=(bs.length:Int))=false:=by simp[hae]
    have HH:Hid (HdR bs x y m true):=hide (.inl ⟨rfl,⟨(D.out.h1 (by omega)).1,(D.out.h2 (by omega)).1,(D.out.h3 (by omega)).1⟩,Orp.avI (D.out.h1 (by omega)).2 (D.out.h2 (by omega)).2 (D.out.h3 (by omega)).2 (by omega)⟩)
    obtain⟨Z,hZ,bZ,gZ,⟨a0,a1,a2⟩,⟨f0,f1,f2⟩,z0,z1,z2⟩:=dP D.out.res (.int .i64 x) (.int .i64 y) (.slice none 0 0)
    have n0:wr.cell? ⟨w.heap.size+1,0,none⟩=some (.int .i64 x):=ai D.out.num 0 rfl
    have n1:wr.cell? ⟨w.heap.size+1,1,none⟩=some (.int .i64 y):=ai D.out.num 1 rfl
    have n2:wr.cell? ⟨w.heap.size+1,2,none⟩=some (.int .i64 m):=ai D.out.num 2 rfl
    have m2:Z.cell? ⟨w.heap.size+1,2,none⟩=some (.int .i64 m):=ai ((gZ.block _ (ax D.out.num) (by simp)).trans D.out.num) 2 rfl
    have BZ:=hide (aB D.out.aF gZ (Nat.le_refl _) D.out.aF.size)
    clear D ZERO bZ gZ hae e hlen
    go_wp2
    go_region
    go_wp2
    refine bodyPost_ret (v:=.tuple #[.agg #[.int .i64 x,.int .i64 y,.slice none 0 0],.int .i64 m,.bool true]) (by simp[results,Tryz.results91,go_sem,z0,z1,z2]) rfl ?_
    exact⟨x,y,m,true,rfl,HH,below_drewN BZ.out 1⟩
   ·have hab:((a:Int) !=(bs.length:Int))=true:=by simp;omega
    have HN:Hid (Orp.zo bs):=hide (Orp.axL (D.out.h1 (by omega)).2 (D.out.h2 (by omega)).2 (D.out.h3 (by omega)).2 (by omega))
    obtain⟨⟨s0,s1,s2⟩,⟨f0,f1,f2⟩,z0,z1,z2⟩:=ZERO.out wr D.out.res
    have BB:=hide D.out.aF
    clear D ZERO e
    go_wp2
    refine bodyPost_ret (v:=.tuple #[.agg #[.int .i64 0,.int .i64 0,.slice none 0 0],.int .i64 0,.bool false]) (by simp[results,Tryz.results91,go_sem,z0,z1,z2]) rfl ?_
    exact⟨0,0,0,false,rfl,hide (.inr ⟨rfl,HN.out⟩),BB.out⟩
def CmO (w:World) (bs:List Int) (E:Ending) (w':World):Prop:=
 ∃(c:Cw) (n:Nat) (g:Bool),E=.returned (.tuple #[.agg #[.int .i64 c.e,.int .i64 c.n,c.v],.int .i64 n,.bool g])∧Hid (bg 111 w.heap.size w' c.v c.l∧Below w.heap.size w w'∧
  ((g=true∧∃r,Fm.Rd bs r n 0∧Cm.pg r c.e c.n c.l 0)∨(g=false∧((∃r n e,Fm.Rd bs r n e∧e≠0)∨∃r n e k l g,Fm.Rd bs r n 0∧Cm.pg r e k l g∧g≠0))))
theorem anO (vb:Value)(bs:List Int)(w:World)(hb:Is .u8 w vb bs)(hl:bs.length≤140737488355328):Calls Tryz.prog 92 #[vb] w (CmO w bs):=by
 obtain⟨w1,hw1,aT,aj,jF⟩:=ak w #[.int .i64 0,.int .i64 0,.slice none 0 0] 35
 have F1:=hide (oJ vb bs w1 (hb.below aj) (by omega))
 obtain⟨ao,cap,hvb,_,_⟩:=hb.shape
 rw[hvb]at F1
 subst hvb
 have B1:=hide aj
 have R1:=hide jF
 clear hb jF aj
 go_enter Tryz.func92,Tryz.ntmps92
 go_wp2_with fail
 refine F1.out.mono ?_
 rintro E w2 ⟨vh,hs,n0,e0,rfl,lG,au,HRd⟩
 have hR2:=(au.block w.heap.size (by omega)).trans R1.out
 have B2:=hide (B1.out.trans (au.mono B1.out.size))
 obtain⟨ah,ch,vE,_,_⟩:=lG.is.shape
 clear F1
 by_cases he0:e0=0
 ·subst he0
  have CD:=hide (aoa vh hs w2 lG.is (by
   rcases HRd.out with⟨_,h1,_⟩|⟨h1,_⟩
   ·omega
   ·simp at h1))
  rw[vE]at CD
  subst vE
  clear lG
  go_wp2_with fail
  refine CD.out.mono ?_
  rintro E w3 ⟨ce,cn,g,cv,cl,rfl,bD,HCR,aD⟩
  unfold bK
  obtain⟨ca,ck,hcv,_,_⟩:=bD.is.shape
  have bM:=(aD.block _ (ax hR2)).trans hR2
  have B3:=B2.out.trans (aD.mono B2.out.size)
  obtain⟨Z,hZ,bZ,gZ,⟨a0,a1,a2⟩,⟨f0,f1,f2⟩,z0,z1,z2⟩:=dP bM (.int .i64 ce) (.int .i64 cn) cv
  have BZ:=hide (aB B3 gZ (Nat.le_refl _) B3.size)
  have OZ:=hide ((bD.aaL gZ (ax hR2)).bu (base':=w.heap.size) B2.out.size)
  have CR:=hide HCR
  have ZB:=hide bZ
  obtain⟨⟨s0,s1,s2⟩,⟨g0,g1,g2⟩,_⟩:=qw Z bZ
  rw[hcv]at hZ z2 OZ ZB s2
  subst hcv
  clear CD aD bD HCR bM B3 gZ bZ au hR2
  by_cases hg:g=0
  ·subst hg
   clear ZB
   go_wp2
   refine bodyPost_ret (v:=.tuple #[.agg #[.int .i64 ce,.int .i64 cn,.slice ca cl.length ck],.int .i64 n0,.bool true]) (by simp[results,Tryz.results92,go_sem,z0,z1,z2]) rfl ?_
   exact⟨⟨ce,cn,.slice ca cl.length ck,cl⟩,n0,true,rfl,hide ⟨OZ.out,BZ.out,.inl ⟨rfl,hs,HRd.out,CR.out⟩⟩⟩
  ·have hgb:(g !=0)=true:=by simp[hg]
   have NO:=hide hg
   obtain⟨Y,hY,bY,gY,_,_,y0,y1,y2⟩:=dP ZB.out (.int .i64 0) (.int .i64 0) (.slice none 0 0)
   have BY:=hide (aB BZ.out gY (Nat.le_refl _) BZ.out.size)
   clear ZB gY bY hg
   go_wp2
   refine bodyPost_ret (v:=.tuple #[.agg #[.int .i64 0,.int .i64 0,.slice none 0 0],.int .i64 0,.bool false]) (by simp[results,Tryz.results92,go_sem,y0,y1,y2]) rfl ?_
   exact⟨⟨0,0,.slice none 0 0,[]⟩,0,false,rfl,hide ⟨bg.nil _ _ _,BY.out,.inr ⟨rfl,.inr ⟨hs,n0,ce,cn,cl,g,HRd.out,CR.out,NO.out⟩⟩⟩⟩
 ·have heb:(e0 !=0)=true:=by simp[he0]
  obtain⟨⟨s0,s1,s2⟩,⟨f0,f1,f2⟩,z0,z1,z2⟩:=qw w2 hR2
  have NO:=hide he0
  subst vE
  clear lG au hR2 he0
  go_wp2
  refine bodyPost_ret (v:=.tuple #[.agg #[.int .i64 0,.int .i64 0,.slice none 0 0],.int .i64 0,.bool false]) (by simp[results,Tryz.results92,go_sem,z0,z1,z2]) rfl ?_
  exact⟨⟨0,0,.slice none 0 0,[]⟩,0,false,rfl,hide ⟨bg.nil _ _ _,B2.out,.inr ⟨rfl,.inl ⟨hs,n0,e0,HRd.out,NO.out⟩⟩⟩⟩
theorem Tryz.at1:(Tryz.prog.info? 52).map (fun i=>(i.zero,i.size,i.bytes))=some (some (.agg #[.int .i64 0,.int .i64 0,.slice none 0 0]),3,40):=by kernel_rfl
def SwB (x:Sw) (g:Nat):Prop:=x.v.ownBlock=some g∨∃c∈x.rs,c.v.ownBlock=some g
structure jL (b:Nat) (w:World) (v:Value) (l:List Sw):Prop where
 r:bn 52 b w v (yU l)
 o:∀x∈l,fT b w x.v x.rs
 i:∀x∈l,In64 x.e∧In64 x.f
 ap:∀(i j:Nat) (x y:Sw),i<j→l[i]? =some x→l[j]? =some y→∀g,SwB x g→¬SwB y g
theorem jL.nil (b:Nat)(w:World):jL b w (.slice none 0 0) []:=⟨bn.nil _ _ _,fun x hx=>by simp at hx,fun x hx=>by simp at hx,fun i j x y _ h=>by simp at h⟩
theorem jL.below {b:Nat}{w w':World}{v:Value}{l:List Sw}(h:jL b w v l)(hb:Below w.heap.size w w'):jL b w' v l:=⟨h.r.below hb,fun x hx=>(h.o x hx).below hb,h.i,h.ap⟩
theorem fT.isC {b:Nat}{w:World}{v:Value}{cs:List Cw}(h:fT b w v cs):di w v cs:=⟨h.c.row,fun c hc=>⟨(h.o c hc).is,h.i c hc⟩⟩
theorem jL.is {b:Nat}{w:World}{v:Value}{l:List Sw}(h:jL b w v l):nJ w v l:=⟨h.r.row,fun x hx=>⟨(h.o x hx).isC,h.i x hx⟩⟩
theorem fT.lt {b:Nat}{w:World}{x:Sw}(h:fT b w x.v x.rs):∀g,SwB x g→b≤g∧g<w.heap.size:=by
 rintro g (hg|⟨c,hc,hg⟩)
 ·exact World.ownsRow.lt h.c g hg
 ·exact World.ownsRow.lt (h.o c hc) g hg
theorem fT.iJ {b e':Nat}{w w':World}{v:Value}{cs:List Cw}(h:fT b w v cs)(k:bH e' w w')(n1:35≠e')(n2:111≠e'):fT b w' v cs:=⟨qY h.c k n1,fun c hc=>qY (h.o c hc) k n2,h.i,h.ap,h.f⟩
theorem aot (l:List Sw)(x:Sw):yU (l++[x])=yU l++[x.c]:=by simp[yU]
theorem qo (l:List Sw)(x:Sw):iq (l++[x])=iq l++[x.s]:=by simp[iq]
theorem jL.axt {b:Nat}{w w6:World}{v:Value}{l:List Sw}(h:jL b w v l)(hbw:b≤w.heap.size)(hb:Below w.heap.size w w6)(x:Sw)(hx:fT w.heap.size w6 x.v x.rs)(hi:In64 x.e∧In64 x.f)(hl:l.length≤1000000000):
  ∃V,w6.alloc (.cells #[.int .i64 x.e,.int .i64 x.f,x.v] 52)=V∧Below w6.heap.size w6 V∧V.heap.size=w6.heap.size+1∧∀ty,∃v2 w2,(Builtin.append_ #[58,58] ty #[v,.slice (some ⟨w6.heap.size,0,none⟩) 1 1]).run Tryz.prog V=.ok v2 w2∧jL b w2 v2 (l++[x])∧(Below b w6 w2∧V.grownBy w2 v.ownBlock)∧∃a n k,v2=.slice a n k:=by
 obtain⟨V,hV,jX,bf,jG⟩:=kC 52 w6 #[.int .i64 x.e,.int .i64 x.f,x.v] 1 [x.c] rfl rfl (by simp[maxLen])
 have mY:=hb.size
 have xg:Below w.heap.size w V:=hb.trans (bf.mono mY)
 refine⟨V,hV,bf,jX,fun ty=>?_⟩
 have hV':=h.below xg
 have hxV:=hx.below bf
 have hone:x.v.oneCell'=true:=by
  obtain⟨a,k,e,_⟩:=hx.c.row.shape
  rw[e];rfl
 obtain⟨v2,w2,hr,aP,gT,at2⟩:=ky (P:=Tryz.prog) (w:=V) 58 ty 52 b Tryz.underlying58 Tryz.at1 v (yU l) hV'.r _ [x.c] jG.row (fun d hd=>by rw[List.mem_singleton.1 hd];exact hone) (by rw[xR];simp;omega) (by omega)
 have kp:=bH.xz hV'.r gT
 refine⟨v2,w2,hr,⟨by rw[aot];exact aP,fun y hy=>?_,fun y hy=>?_,fun i j y z hij hi hj g hg hz=>?_⟩,⟨(bf.mono (by omega)).grown gT (by omega) fun g hg=>(World.ownsRow.lt hV'.r g hg).1,gT⟩,?_⟩
 ·rcases List.mem_append.1 hy with hy|hy
  ·exact(hV'.o y hy).iJ kp (by decide) (by decide)
  ·rw[List.mem_singleton.1 hy]
   exact(hxV.bu hbw).iJ kp (by decide) (by decide)
 ·rcases List.mem_append.1 hy with hy|hy
  ·exact h.i y hy
  ·rw[List.mem_singleton.1 hy];exact hi
 ·have hjl:=(List.getElem?_eq_some_iff.1 hj).1
  rw[List.length_append,List.length_singleton]at hjl
  have hi':i<l.length:=by omega
  rw[List.getElem?_append_left hi']at hi
  by_cases ax5:j<l.length
  ·rw[List.getElem?_append_left ax5]at hj
   exact h.ap i j y z hij hi hj g hg hz
  ·rw[List.getElem?_append_right (by omega),show j-l.length=0 by omega,List.getElem?_cons_zero]at hj
   cases hj
   have h1:=((h.o y (List.mem_of_getElem? hi)).lt g hg).2
   have h2:=(hx.lt g hz).1
   omega
 ·obtain⟨a1,k1,h1,_⟩:=aP.row.shape
  exact⟨a1,_,k1,h1⟩
def ScO (w:World) (bs:List Int) (E:Ending) (w':World):Prop:=
 ∃(v:Value) (l:List Sw) (n:Nat),E=.returned (.tuple #[v,.int .i64 n])∧Hid (jL w.heap.size w' v l∧tY l∧n=(Orp.secs (iq l)).length∧Orp.Sn 0 bs (iq l)∧Below w.heap.size w w')
structure xH (w wr:World) (bs:List Int) (a:Nat) (v:Value) (l:List Sw):Prop where
 own:jL w.heap.size wr v l
 fit:tY l
 ris:Orp.Ris 0 (iq l)
 pre:Orp.secs (iq l)<+:bs
 at':a=(Orp.secs (iq l)).length
 aF:Below w.heap.size w wr
theorem xH.len {w wr:World}{bs:List Int}{a:Nat}{v:Value}{l:List Sw}(h:xH w wr bs a v l):l.length≤a:=by
 have:=Orp.aeu (iq l)
 rw[p8]at this
 rw[h.at'];exact this
theorem xH.no {w wr:World}{bs:List Int}{a:Nat}{v:Value}{l:List Sw}(h:xH w wr bs a v l)(hn:Orp.No (bs.drop a)):Orp.Sn 0 bs (iq l):=⟨h.ris,h.pre,fun t ht hp=>by
 rw[←h.at']at hp
 exact hn t ht.1 hp⟩
theorem xH.low {w wr:World}{bs:List Int}{a:Nat}{v:Value}{l:List Sw}(h:xH w wr bs a v l){x:Sw}{n:Nat}(hr:Orp.Rd (bs.drop a) x.s n true)(hle:x.e≤Orp.kg 0 (iq l)):Orp.Sn 0 bs (iq l):=⟨h.ris,h.pre,fun t ht hp=>by
 rw[←h.at']at hp
 rcases hr with⟨_,h1,h2,_⟩|⟨h1,_⟩
 ·have e:=Orp.abR ht.1 h1 hp h2
  have:=ht.2.1
  rw[e]at this
  have:Orp.kg 0 (iq l)<x.e:=this
  omega
 ·simp at h1⟩
theorem tV {l:List Sw}{k:Nat}{x:Sw}(h:l[k]? =some x)(hk:k+1=l.length)(a:Int):Orp.kg a (iq l)=x.e:=by
 have e:l=l.take k++[x]:=by
  obtain⟨hlt,e⟩:=List.getElem?_eq_some_iff.1 h
  have:l.take (k+1)=l:=List.take_of_length_le (by omega)
  rw[List.take_succ_eq_append_getElem hlt,e]at this
  exact this.symm
 rw[e,qo,Orp.jE]
 rfl
theorem xH.next {w wr wx:World}{bs:List Int}{a:Nat}{v v2:Value}{l:List Sw}(h:xH w wr bs a v l){x:Sw}{n:Nat}(hr:Orp.Rd (bs.drop a) x.s n true)(hgt:Orp.kg 0 (iq l)<x.e)(hf:dL x.rs)(ho:jL w.heap.size wx v2 (l++[x]))(hb:Below w.heap.size w wx):xH w wx bs (a+n) v2 (l++[x])∧1≤n:=by
 rcases hr with⟨_,h1,h2,h3⟩|⟨h1,_⟩
 ·have hz:=Orp.aO h1
  have hln:x.rs.length≤1048576:=by
   have:=hz.2.2.2.2.2.1
   rw[show x.s.cs=ay x.rs from rfl,iI]at this
   exact this
  have hp:=Orp.yf x.s
  refine⟨⟨ho,fun y hy=>?_,?_,?_,?_,hb⟩,by omega⟩
  ·rcases List.mem_append.1 hy with hy|hy
   ·exact h.fit y hy
   ·rw[List.mem_singleton.1 hy];exact⟨hf,by omega⟩
  ·rw[qo,Orp.xS]
   exact⟨h.ris,h1,hgt,trivial⟩
  ·rw[qo,Orp.lC,Orp.nO,Bm.bz]
   rw[h.at']at h2
   exact⟨h.pre,h2⟩
  ·rw[qo,Orp.lC,Orp.nO,List.length_append,←h.at',h3]
 ·simp at h1
theorem ak8 {l:List Sw}{k:Nat}{x:Sw}(h:l[k]? =some x):(iq l)[k]? =some x.s:=by unfold iq;rw[List.getElem?_map,h];rfl
theorem aax (va vb:Value)(l m:List Sw)(w:World)(ha:nJ w va l)(hb:nJ w vb m)(fa:tY l)(fb:tY m)(hl:l.length≤140737488355328)(he:iq l=iq m):
  Calls Tryz.prog 21 #[va,vb] w fun E w'=>E=.returned (.bool true)∧Below w.heap.size w w':=by
 have hlm:m.length=l.length:=by rw[←p8 m,←he,p8]
 obtain⟨aa,ca,hva,_,_⟩:=ha.shape
 obtain⟨ab,cb,hvb,_,_⟩:=hb.shape
 rw[hlm]at hvb
 have ROW:Hid (∀(k:Nat),k<l.length→∃b1 o1 b2 o2,aa=some ⟨b1,o1,none⟩∧ab=some ⟨b2,o2,none⟩∧∃e f v1 v2,(∀W,Below w.heap.size w W→(W.cell? ⟨b1,o1+k*3,none⟩=some (.int .i64 e)∧W.cell? ⟨b1,o1+k*3+1,none⟩=some (.int .i64 f)∧W.cell? ⟨b1,o1+k*3+2,none⟩=some v1)∧(W.cell? ⟨b2,o2+k*3,none⟩=some (.int .i64 e)∧W.cell? ⟨b2,o2+k*3+1,none⟩=some (.int .i64 f)∧W.cell? ⟨b2,o2+k*3+2,none⟩=some v2))∧
   (∃a n q,v1=.slice a n q)∧(∃a n q,v2=.slice a n q)∧∀W,Below w.heap.size w W→Calls Tryz.prog 41 #[v1,v2] W fun E w'=>E=.returned (.bool true)∧Below W.heap.size W w'):=hide fun k hk=>by
  obtain⟨b1,o1,c1,h1,_,_,hb1,cell1⟩:=ha.full (by omega)
  obtain⟨b2,o2,c2,h2,_,_,hb2,adw⟩:=hb.full (by omega)
  rw[hva]at h1
  rw[hvb,hlm]at h2
  simp only[Value.slice.injEq,true_and]at h1 h2
  obtain⟨x,hx⟩:∃x,l[k]? =some x:=⟨l[k],List.getElem?_eq_getElem hk⟩
  obtain⟨y,hy⟩:∃y,m[k]? =some y:=⟨m[k]'(by omega),List.getElem?_eq_getElem _⟩
  have hs:x.s=y.s:=by
   have q1:=ak8 hx
   have q2:=ak8 hy
   rw[he,q2]at q1
   exact(Option.some.inj q1).symm
  obtain⟨d0,d1,d2⟩:=cell1 k x hx
  obtain⟨e0,e1,e2⟩:=adw k y hy
  simp only[Sw.s,Orp.Se.mk.injEq]at hs
  obtain⟨s1,s2,s3⟩:=hs
  rw[←s1]at e0
  rw[←s2]at e1
  have mx:=List.mem_of_getElem? hx
  have my:=List.mem_of_getElem? hy
  have ix:=(ha.2 x mx).1
  have iy:=(hb.2 y my).1
  refine⟨b1,o1,b2,o2,h1.1,h2.1,x.e,x.f,x.v,y.v,fun W hW=>⟨⟨(hW.cell (p:=⟨b1,o1+k*3,none⟩) hb1).trans d0,(hW.cell (p:=⟨b1,o1+k*3+1,none⟩) hb1).trans d1,(hW.cell (p:=⟨b1,o1+k*3+2,none⟩) hb1).trans d2⟩,(hW.cell (p:=⟨b2,o2+k*3,none⟩) hb2).trans e0,(hW.cell (p:=⟨b2,o2+k*3+1,none⟩) hb2).trans e1,(hW.cell (p:=⟨b2,o2+k*3+2,none⟩) hb2).trans e2⟩,?_,?_,fun W hW=>?_⟩
  ·obtain⟨a,q,h,_,_⟩:=ix.1.shape;exact⟨a,_,q,h⟩
  ·obtain⟨a,q,h,_,_⟩:=iy.1.shape;exact⟨a,_,q,h⟩
  ·have:=ah0 x.v y.v x.rs y.rs W (ix.below hW) (iy.below hW) (fa x mx).1 (fb y my).1 (by have:=(fa x mx).2;omega) (by have:=(fb y my).2;omega)
   rw[s3,aar]at this
   exact this
 subst hva hvb
 generalize l.length=n at*
 clear ha hb fa fb he hlm
 go_enter Tryz.func21,Tryz.ntmps21
 go_wp2
 go_loopw [5] (fun iv wr=>∃k:Nat,k≤n∧iv=.int .i64 k∧Below w.heap.size w wr) (fun iv _=>n-(intOf iv).toNat)
 case atStart=>exact⟨0,by omega,rfl,Below.refl _ _⟩
 case round=>
  obtain⟨k,hk,rfl,aF⟩:=hrel
  by_cases hlt:k<n
  ·obtain⟨b1,o1,b2,o2,rfl,rfl,e,f,v1,v2,CE,⟨p1,p2,p3,rfl⟩,⟨r1,r2,r3,rfl⟩,SC⟩:=ROW.out k hlt
   have hlt':(k:Int)<n:=by omega
   have hk0:(0:Int)≤(k:Int):=by omega
   have HCE:=hide CE
   have HSC:=hide SC
   obtain⟨⟨d0,d1,d2⟩,⟨e0,e1,e2⟩⟩:=CE wr aF
   have b20:=aF.drew
   have BEL:=hide aF
   clear CE SC
   go_wp2_with fail
   go_region_held3 (fun W=>(W.cell? ⟨b1,o1+k*3,none⟩=some (.int .i64 e)∧W.cell? ⟨b1,o1+k*3+1,none⟩=some (.int .i64 f)∧W.cell? ⟨b1,o1+k*3+2,none⟩=some (.slice p1 p2 p3))∧(W.cell? ⟨b2,o2+k*3,none⟩=some (.int .i64 e)∧W.cell? ⟨b2,o2+k*3+1,none⟩=some (.int .i64 f)∧W.cell? ⟨b2,o2+k*3+2,none⟩=some (.slice r1 r2 r3))) (first|exact⟨⟨d0,d1,d2⟩,⟨e0,e1,e2⟩⟩|exact HCE.out _ b5|go_keep)
    (first|(go_at_call 41;refine(HSC.out _ b20).mono ?_;rintro E w5 ⟨rfl,aZ⟩;have b5:Below w.heap.size w w5:=b20.trans (aZ.mono b20.size)))
   all_goals
    clear HSC
    go_wp2
    go_roundw
    case rel=>exact⟨k+1,by omega,by go_num,b5⟩
    case measure=>simp[intOf];omega
  ·have hlt':¬(k:Int)<n:=by omega
   go_wp2
   go_ret
   exact⟨rfl,aF⟩
end Go.Proofs.YtmngcecomcadkaaGreatDoor

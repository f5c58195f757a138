/- Texts of one layer, one behind the other. -/
import Derived.Test.YtmngcecomcadkaaGreatDoorCH15
import Derived.Test.YtmngcecomcadkaaGreatDoorCH3
import Derived.Test.YtmngcecomcadkaaGreatDoorCH11
import Derived.Deep.RegionHeld3
import Derived.Shelf.Abstract
import Derived.Test.YtmngcecomcadkaaGreatDoorCG3
import Derived.Test.YtmngcecomcadkaaGreatDoorCH8
import Derived.Test.YtmngcecomcadkaaGreatDoorCH13
import Derived.Test.YtmngcecomcadkaaGreatDoorCH21
set_option maxRecDepth 100000
set_option maxHeartbeats 8000000
namespace Go.Proofs.YtmngcecomcadkaaGreatDoor
open Go.RowKit
set_option linter.unusedVariables false
theorem aaI (base:Nat)(vb:Value)(bs:List Int)(r:Rv)(w:World)(hb:Own .u8 5 base w vb bs)(hbase:base≤w.heap.size)(hv:Is .u8 w r.v r.bytes)(hto:r.cut=true→r.to≤bs.length)(hl:bs.length+r.bytes.length≤140737488355328):
  Calls Tryz.prog 185 #[.agg #[.int .i64 (kr r),.int .i64 r.file,r.v,.int .i64 r.to],vb] w fun E w'=>∃v,E=.returned v∧Own .u8 5 base w' v (Dm.mV bs r.r)∧Out (fun g=>vb.ownBlock=some g) w w'∧∀b,v.ownBlock=some b→vb.ownBlock=some b∨w.heap.size≤b:=by
 cases hc:r.cut
 ·have hk:kr r=0:=by simp[kr,hc]
  have e:Dm.mV bs r.r=bs++r.bytes:=by simp[Dm.mV,Rv.r,hc]
  rw[e,hk]
  obtain⟨w1,hw1,aT,aj,hB⟩:=ak w #[.int .i64 0,.int .i64 r.file,r.v,.int .i64 r.to] 152
  have c0:w1.cell? ⟨w.heap.size,0,none⟩=some (.int .i64 0):=ai hB 0 rfl
  have c2:w1.cell? ⟨w.heap.size,2,none⟩=some r.v:=ai hB 2 rfl
  have hb1:=hb.below aj
  have hv1:=hv.below aj
  have X:Hid (∀ty,∃v' w',(Builtin.append_ #[61,61] ty #[vb,r.v]).run Tryz.prog w1=.ok v' w'∧(Own .u8 5 base w' v' (bs++r.bytes)∧w1.grownBy w' vb.ownBlock∧(v'.ownBlock=vb.ownBlock∨v'.ownBlock=some w1.heap.size))):=hide fun ty=>
   lq 61 ty .u8 5 base 1 Tryz.underlying61 Tryz.info5 (by decide) vb bs hb1 r.v r.bytes hv1 (by omega) (by omega)
  clear hB hb1 hv1 hto hc e hk
  go_enter Tryz.func185,Tryz.ntmps185
  go_wp2_with (at_builtin;refine jq rfl (.tmp 9) (.tmp 11) 61 rfl vb r.v rfl rfl X.out ?_)
  intro v2 w2 aP gT at2
  have ho:Out (fun g=>vb.ownBlock=some g) w w2:=(Out.of_below aj).trans (G:=fun g=>vb.ownBlock=some g) (Out.aQ gT fun g hg=>hg) fun g hg=>.inl hg
  have hat:∀b,v2.ownBlock=some b→vb.ownBlock=some b∨w.heap.size≤b:=by
   intro b hb'
   rcases at2 with h|h
   ·exact .inl (by rw[←h];exact hb')
   ·rw[hb']at h
    simp at h
    exact .inr (by omega)
  have HO:=hide ho
  have HAT:=hide hat
  clear ho hat at2 gT
  go_wp2
  go_ret
  exact⟨_,rfl,aP,HO.out,HAT.out⟩
 ·have hk:kr r=1:=by simp[kr,hc]
  have e:Dm.mV bs r.r=bs.take r.to:=by simp[Dm.mV,Rv.r,hc]
  rw[e,hk]
  have ayi:=hto hc
  obtain⟨w1,hw1,aT,aj,hB⟩:=ak w #[.int .i64 1,.int .i64 r.file,r.v,.int .i64 r.to] 152
  have c0:w1.cell? ⟨w.heap.size,0,none⟩=some (.int .i64 1):=ai hB 0 rfl
  have c3:w1.cell? ⟨w.heap.size,3,none⟩=some (.int .i64 r.to):=ai hB 3 rfl
  obtain⟨vs,hsl,own,hat⟩:=(hb.below aj).jb Tryz.kW Tryz.mG r.to ayi
  have HO:Hid (Out (fun g=>vb.ownBlock=some g) w w1):=hide (Out.of_below aj)
  have HAT:Hid (∀b,vs.ownBlock=some b→vb.ownBlock=some b∨w.heap.size≤b):=hide fun b hb'=>.inl (hat b hb')
  clear hB hat hto hc e hk
  go_enter Tryz.func185,Tryz.ntmps185
  go_wp2
  go_ret
  exact⟨_,rfl,own,HO.out,HAT.out⟩
theorem afz (p:Nat)(F:Nat→Prop)(w:World)(st:Dm.Ds)(f:Nat)(h:Pk p F w st)(hf:f<4)(hsz:(st.sure f).length+Dm.gm st.wait≤140737488355000)(hw:st.wait.length≤1000000):
  Calls Tryz.prog 142 #[.pointer (some ⟨p,0,none⟩),.int .i64 f] w fun E w'=>∃v,E=.returned v∧Own .u8 5 w.heap.size w' v (Dm.hold f (st.sure f) st.wait)∧Below w.heap.size w w':=by
 obtain⟨s,wv,rs,h,rfl⟩:=h
 have cf:=h.cf f hf
 have c7:=h.c7
 have hp:=h.lt p (.inl rfl)
 have isf:=(h.iO.file f hf).is
 have hlr:=h.iO.len
 obtain⟨ao,cap,hv,hcap,hcm⟩:=h.iO.row.row.shape
 have hrow:0<rs.length→∃b off c,wv=.slice (some ⟨b,off,none⟩) rs.length c∧b<w.heap.size∧∀i a,rs[i]? =some a→∀j u,(iY a)[j]? =some u→w.cell? ⟨b,off+i*4+j,none⟩=some u:=by
  intro h0
  obtain⟨b,off,c,h1,_,_,h4,h5⟩:=h.iO.row.row.full lX (by decide) h0
  exact⟨b,off,c,h1,h4,h5⟩
 have H:=hide h
 have afH:=hide hrow
 subst hv
 clear h hrow
 have hf0:(0:Int)≤(f:Int):=by omega
 have hf4:(f:Int)<4:=by omega
 go_enter Tryz.func142,Tryz.ntmps142
 go_wp2_with fail
 refine(pX _ _ _ isf (by omega)).mono ?_
 rintro E w1 ⟨v1,rfl,aX,aj⟩
 have d7:=(aj.cell (p:=⟨p,7,none⟩) hp).trans c7
 clear cf isf
 go_wp2
 go_loopw [5,20] (fun bv iv wr=>∃k:Nat,k≤rs.length∧iv=.int .i64 k∧Hid (Own .u8 5 w.heap.size wr bv (Dm.hold f (st.sure f) (st.wait.take k)))∧Below w.heap.size w wr) (fun _ iv _=>rs.length-(intOf iv).toNat)
 case atStart=>exact⟨0,by omega,rfl,hide (by simpa[Dm.hold]using aX),aj⟩
 case round=>
  obtain⟨k,hk,rfl,HT,aF⟩:=hrel
  have sz:=aF.size
  by_cases hlt:k<rs.length
  ·obtain⟨b,off,cq,iw,hB,hcell⟩:=afH.out (by omega)
   simp only[Value.slice.injEq,true_and]at iw
   obtain⟨rfl,rfl⟩:=iw
   obtain⟨r,hr⟩:∃r,rs[k]? =some r:=⟨rs[k],by rw[List.getElem?_eq_getElem]⟩
   have e0:wr.cell? ⟨b,off+k*4,none⟩=some (.int .i64 (kr r)):=(aF.cell (p:=⟨b,off+k*4,none⟩) hB).trans (hcell k r hr 0 _ rfl)
   have e1:wr.cell? ⟨b,off+k*4+1,none⟩=some (.int .i64 r.file):=(aF.cell (p:=⟨b,off+k*4+1,none⟩) hB).trans (hcell k r hr 1 _ rfl)
   have e2:wr.cell? ⟨b,off+k*4+2,none⟩=some r.v:=(aF.cell (p:=⟨b,off+k*4+2,none⟩) hB).trans (hcell k r hr 2 _ rfl)
   have e3:wr.cell? ⟨b,off+k*4+3,none⟩=some (.int .i64 r.to):=(aF.cell (p:=⟨b,off+k*4+3,none⟩) hB).trans (hcell k r hr 3 _ rfl)
   obtain⟨V,hV,hV2,jX,bf,bV,x0,x1,x2,x3⟩:=afG wr 152 (.int .i64 0) (.int .i64 0) (.slice none 0 0) (.int .i64 0) (.int .i64 (kr r)) (.int .i64 r.file) r.v (.int .i64 r.to)
   have hst:st.wait[k]? =some r.r:=by rw[←H.out.iO.wait,List.getElem?_map,hr];rfl
   have hbl:=ahC hst
   have hhl:=Dm.lH (st.wait.take k) (st.sure f) f
   have hfit:=Dm.aeZ H.out.ok hst
   obtain⟨ar,cr,mP,_,_⟩:=(H.out.iO.raw r (List.mem_of_getElem? hr)).1.shape
   have ir:=(((H.out.iO.raw r (List.mem_of_getElem? hr)).1).below aF).below bf
   have HN:=hide (akS hst f (st.sure f))
   have hlt':(k:Int)<rs.length:=by omega
   have hk0:(0:Int)≤(k:Int):=by omega
   have aq5:=aF.trans (bf.mono (by omega))
   have HTV:=hide (HT.out.below bf)
   by_cases hff:r.file=f
   ·have hfe:((r.file:Int)==(f:Int))=true:=by simp[hff]
    have hto:r.cut=true→r.to≤(Dm.hold f (st.sure f) (st.wait.take k)).length:=by
     intro hc
     have:=hfit.2.1 hc
     rw[show r.r.file=f from hff,←Dm.jD]at this
     exact this
    have HTO:=hide hto
    have hlen:(Dm.hold f (st.sure f) (st.wait.take k)).length+r.bytes.length≤140737488355328:=by
     have:r.r.bytes=r.bytes:=rfl
     rw[this]at hbl
     omega
    have avA:r.r.file=f:=hff
    have HFF:=hide avA
    have BI:=hide (fun(v0:Value) (h0:Own .u8 5 w.heap.size V v0 (Dm.hold f (st.sure f) (st.wait.take k)))=>aaI w.heap.size v0 _ r V h0 (by omega) ir HTO.out hlen)
    have HB2:=hide bV
    have HRV:=hide mP
    rw[mP]at e2 hV hV2 x2
    rw[mP]at BI
    clear hst hbl hhl hfit hto hff avA hcell hr HTO hlen ir mP bV
    go_wp2_with fail
    refine(BI.out _ HTV.out).mono ?_
    rintro E w2 ⟨v2,rfl,aP,aga,at2⟩
    have au:Below w.heap.size V w2:=aga.below (fun g hg=>(HTV.out.block g hg).1) (by omega)
    have HT2:Hid (Own .u8 5 w.heap.size w2 v2 (Dm.hold f (st.sure f) (st.wait.take (k+1)))):=hide (by
     rw[HN.out,if_pos HFF.out]
     exact aP)
    have zZ:=aq5.trans au
    clear aP au aga at2
    go_wp2
    go_roundw
    case rel=>exact⟨k+1,by omega,by go_num,HT2,zZ⟩
    case measure=>simp[intOf];omega
   ·have hfe:((r.file:Int)==(f:Int))=false:=by simp;omega
    have HT2:=hide (show Own .u8 5 w.heap.size V _ (Dm.hold f (st.sure f) (st.wait.take (k+1)))by rw[HN.out,if_neg (show ¬r.r.file=f from hff)];exact HTV.out)
    rw[mP]at e2 hV hV2 x2
    clear hst hbl hhl hfit hcell hr hff ir mP bV
    go_wp2
    go_roundw
    case rel=>exact⟨k+1,by omega,by go_num,HT2,aq5⟩
    case measure=>simp[intOf];omega
  ·have hlt':¬(k:Int)<rs.length:=by omega
   have HT2:=HT.out
   rw[List.take_of_length_le (by omega)]at HT2
   clear HT
   go_wp2
   go_ret
   exact⟨_,rfl,HT2,aF⟩
theorem acK (rs:List Rv)(h:∀r∈rs,∃a n c,r.v=.slice a n c):∀u∈gcells iY rs,u.oneCell'=true:=by
 induction rs with
 |nil=>simp[gcells]
 |cons r l ih=>
  intro u hu
  rw[gcells,List.mem_append]at hu
  rcases hu with hu|hu
  ·obtain⟨a,n,c,hv⟩:=h r (by simp)
   simp only[iY,List.mem_cons,List.not_mem_nil,or_false]at hu
   rcases hu with rfl|rfl|rfl|rfl
   ·rfl
   ·rfl
   ·rw[hv];rfl
   ·rfl
  ·exact ih (fun r hr=>h r (by simp[hr])) u hu
theorem Tryz.agJ:(Tryz.prog.info? 152).map (fun i=>(i.zero,i.size,i.bytes))=some (some (.agg #[.int .i64 0,.int .i64 0,.slice none 0 0,.int .i64 0]),4,48):=by kernel_rfl
theorem Tryz.aaR:Tryz.prog.underlying 74=some (.slice (Tryz.prog.elem 74)):=by kernel_rfl
theorem Tryz.aaz (wx:World):(sizeOf (Tryz.prog.elem 74)).run Tryz.prog wx=.ok 4 wx:=by kernel_rfl
theorem Tryz.axw (wx:World):(zeroValue 152).run Tryz.prog wx=.ok (.agg #[.int .i64 0,.int .i64 0,.slice none 0 0,.int .i64 0]) wx:=by kernel_rfl
theorem asW (w:World)(wv:Value)(rs:List Rv)(n:Nat)(hrow:dM iY 4 152 0 w wv rs)(hsl:∀r∈rs,∃a n c,r.v=.slice a n c)(hn:n≤rs.length)(hlen:rs.length≤1000000):
  Calls Tryz.prog 186 #[wv,.int .i64 0,.int .i64 n] w fun E w'=>∃v',E=.returned v'∧dM iY 4 152 0 w' v' (rs.drop n)∧Out (fun g=>wv.ownBlock=some g) w w'∧v'.ownBlock=wv.ownBlock:=by
 by_cases h0:n=0
 ·subst h0
  obtain⟨ao,cap,hv,hcap,hcm⟩:=hrow.row.shape
  subst hv
  have R:=hide (show dM iY 4 152 0 w (.slice ao rs.length cap) (rs.drop 0)from hrow)
  clear hrow hsl
  go_enter Tryz.func186,Tryz.ntmps186
  go_wp2
  all_goals (go_ret;exact⟨_,rfl,R.out,Out.refl _ _,rfl⟩)
 ·obtain⟨L,hL⟩:∃L,L=rs.length:=⟨_,rfl⟩
  obtain⟨m,hm⟩:∃m,L=n+m:=⟨L-n,by omega⟩
  obtain⟨g,cap,hv,hcap,hcm,hcell,aje⟩:∃g cap,wv=.slice (some ⟨g,0,none⟩) L cap∧L≤cap∧cap≤maxLen∧(∀j,j<cap*4→(w.cell? ⟨g,j,none⟩).isSome=true)∧∀j,w.frozen? ⟨g,j,none⟩=false:=by
   rcases hrow.2 with⟨_,h⟩|⟨g,cap,cur,hv,_,hg,hc,hm',hs,_⟩
   ·omega
   ·refine⟨g,cap,by rw[hL];exact hv,by rw[hL];exact hc,hm',fun j hj=>?_,fun j=>aA hg j⟩
    rw[ai hg j (Array.getElem?_eq_getElem (by omega:j<cur.size))]
    rfl
  have hdl:(rs.drop n).length=m:=by rw[List.length_drop];omega
  obtain⟨i,hi,hz,hsize,hby⟩:=info_parts Tryz.agJ
  obtain⟨vs,hs3,hrw⟩:=hrow.row.gq lX Tryz.aaR Tryz.aaz n (by omega)
  obtain⟨avs,ay,hvs,hcv,hcells⟩:∃ad c,vs=.slice (some ad) m c∧m≤c∧∀j u,(gcells iY (rs.drop n))[j]? =some u→w.cell? (ad.add j)=some u:=by
   rcases hrw with⟨h,h'⟩|⟨ad,c,h1,h2,_,h4⟩
   ·exfalso
    have:=hs3 w
    rw[hv,run_slice_l w 74 (some ⟨g,0,none⟩) L cap Tryz.aaR .i64 _ (by omega) (by omega),Tryz.aaz,h]at this
    simp[Result.andThen,sliced]at this
    split at this<;>simp at this
   ·exact⟨ad,c,by rw[h1,hdl],by omega,h4⟩
  have afp:w.ownsRow 0 152 4 (.slice (some ⟨g,0,none⟩) 0 cap) 0 []:=by
   have h1:w.ownsRow 0 152 4 wv L (gcells iY rs):=by rw[hL];exact hrow
   rw[hv]at h1
   simpa using ab5 h1 0 (by omega)
  have hrun:∃w1,(∀ty,(Builtin.append_ #[74,74] ty #[.slice (some ⟨g,0,none⟩) 0 cap,.slice (some avs) m ay]).run Tryz.prog w.drew=.ok (.slice (some ⟨g,0,none⟩) m cap) w1)∧w1.ownsRow 0 152 4 (.slice (some ⟨g,0,none⟩) m cap) m (gcells iY (rs.drop n))∧w.drew.grownBy w1 (some g):=by
   have key:=fun ty=>run_append_fits (P:=Tryz.prog) w.drew 0 74 ty 152 i 4 Tryz.underlying74 hi hsize g 0 cap [] afp avs m ay (gcells iY (rs.drop n)) (by rw[mE lX,hdl]) hcells (acK _ fun r hr=>hsl r (List.mem_of_mem_drop hr)) (by omega)
   obtain⟨w1,h1,h2,h3⟩:=key 0
   rw[Nat.zero_add]at h1 h2
   exact⟨w1,fun ty=>h1,h2,h3⟩
  obtain⟨w1,hrun,aX,sZ⟩:=hrun
  obtain⟨apC,hg1,hs1⟩:∃cur,w1.heap[g]? =some (.cells cur 152 (0,0))∧cur.size=cap*4:=by
   rcases aX.2 with⟨h,_⟩|⟨g',cap',cur,h,_,hg,_,_,hs,_⟩
   ·simp at h
   ·simp only[Value.slice.injEq,Option.some.injEq,Addr.mk.injEq,and_true,true_and]at h
    obtain⟨rfl,rfl⟩:=h
    exact⟨cur,hg,hs⟩
  have hzl:(Builtin.zeroCells (Value.agg #[.int .i64 0,.int .i64 0,.slice none 0 0,.int .i64 0]).cells n).toList.length=n*4:=by rw[vS];rfl
  obtain⟨w2,hw2⟩:∃w2,w2=w1.setCells g (m*4) (Builtin.zeroCells (Value.agg #[.int .i64 0,.int .i64 0,.slice none 0 0,.int .i64 0]).cells n).toList:=⟨_,rfl⟩
  have hcl:∀ty,(Builtin.clear_ #[74] ty #[.slice (some ⟨g,m*4,none⟩) n (cap-m)]).run Tryz.prog w1=.ok (.tuple #[]) w2:=fun ty=>by
   rw[hw2]
   exact sP w1 _ _ ty _ Tryz.underlying74 Tryz.axw (vR n (by decide)) g (m*4) (cap-m) (by omega) (fun j hj=>by rw[hzl]at hj;rw[ai hg1 _ (Array.getElem?_eq_getElem (by omega:m*4+j<apC.size))];rfl) (fun j _=>aA hg1 _)
  have R:Hid (dM iY 4 152 0 w2 (.slice (some ⟨g,0,none⟩) m cap) (rs.drop n)):=hide (by
   unfold dM
   rw[hdl,hw2]
   exact wW aX _ (Nat.le_refl _) _)
  have O:Hid (Out (fun b=>(Value.slice (some ⟨g,0,none⟩) L cap).ownBlock=some b) w w2):=hide (by
   rw[hw2]
   exact Out.aQ (aG (aG (iT w 1 _) sZ) (ny g _ (m*4) w1)) fun b hb=>hb)
  obtain⟨x1,hsA⟩:∃x,∀wx,(Instr.slice 74 wv (some (.int .i64 0)) (some (.int .i64 n)) (some (.int .i64 L))).run Tryz.prog wx=.ok x wx:=by
   refine⟨sliced (some ⟨g,0,none⟩) 0 n L 4,fun wx=>?_⟩
   rw[hv,run_slice_lhm wx 74 (some ⟨g,0,none⟩) L cap Tryz.aaR .i64 .i64 .i64 _ _ _ (by omega) (by omega) (by omega) (by omega),Tryz.aaz]
   simp[Result.andThen]
  have hs2:∀wx,(Instr.slice 74 wv none (some (.int .i64 0)) none).run Tryz.prog wx=.ok (.slice (some ⟨g,0,none⟩) 0 cap) wx:=fun wx=>by
   rw[hv,run_slice_h wx 74 (some ⟨g,0,none⟩) L cap Tryz.aaR .i64 _ (by omega) (by omega),Tryz.aaz]
   simp[Result.andThen,sliced,Addr.add]
  have hlr:∀ty wx,(Builtin.len_ #[74] ty #[wv]).run Tryz.prog wx=.ok (.int .i64 L) wx:=fun ty wx=>by
   rw[hv]
   simp[Builtin.len_,run_underlying Tryz.underlying74,goInt]
  have hob:wv.ownBlock=some g:=by rw[hv];rfl
  rw[←hv]at O
  rw[hvs]at hs3
  have hmc:¬cap=m:=by omega
  have hmL:(m:Int)≤L:=by omega
  have hLc:(L:Int)≤cap:=by omega
  have hLm:L-m=n:=by omega
  rw[←hLm]at hcl
  have hne:((0:Int)==(n:Int))=false:=by simp;omega
  have HB:=hide hob
  have HR:=hide hrun
  clear hrun hw2 hzl hg1 hs1 aX sZ afp hrw hcells hcell aje hrow hsl hi hz hsize hby hvs hdl hL hm hv hLm h0 hn hlen hcap hcm hob hcv
  go_enter Tryz.func186,Tryz.ntmps186
  go_wp2
  go_region_law (refine fo rfl (.tmp 22) (.tmp 25) 74 rfl (.slice (some ⟨g,0,none⟩) 0 cap) (.slice (some avs) m ay) (by first|rfl|(simp[Act.eval];done)) (by first|rfl|(simp[Act.eval];done)) (R:=fun v' w'=>v'=.slice (some ⟨g,0,none⟩) m cap∧w'=w1) (fun ty=>⟨_,_,HR.out ty,rfl,rfl⟩) ?_;rintro _ _ ⟨rfl,rfl⟩)
  all_goals (go_wp2;go_ret;exact⟨_,rfl,R.out,O.out,HB.out.symm⟩)
section
variable {p:Nat} {F G:Nat→Prop} {w w' w1 w2:World} {st st':Dm.Ds} {sure axA:Nat→List Int} {wait ajg:List Dm.Rw} {s s':Nat→Value} {wv wv':Value} {rs rs':List Rv}
def sup (s:Nat→Value) (f:Nat) (v:Value):Nat→Value:=fun j=>if j=f then v else s j
theorem jK.files (h:jK w sure wait s wv rs){f:Nat}(hf:f<4){v:Value}{bs':List Int}(hown:Own .u8 5 0 w' v bs')(ho:Out (fun g=>(s f).ownBlock=some g) w w')(hat:∀b,v.ownBlock=some b→(s f).ownBlock=some b∨w.heap.size≤b):
  jK w' (Dm.upd sure f bs') wait (sup s f v) wv rs:=by
 have hlt:∀j,j<4→∀b,(s j).ownBlock=some b→b<w.heap.size:=fun j hj b hb=>((h.file j hj).block b hb).2
 have hrl:∀r∈rs,∀b,r.v.ownBlock=some b→b<w.heap.size:=fun r hr b hb=>by
  obtain⟨_,cs,fr,hc⟩:=(h.raw r hr).2 b hb
  exact ax hc
 have nv:∀j,j<4→j≠f→∀b,v.ownBlock=some b→(s j).ownBlock≠some b:=fun j hj hjf b hb e=>by
  rcases hat b hb with h1|h1
  ·exact h.apart f j hf hj (Ne.symm hjf) b h1 e
  ·have:=hlt j hj b e;omega
 refine⟨fun j hj=>?_,fun j k hj hk hjk b hb=>?_,?_,fun r hr=>?_,fun r hr j hj b hb=>?_,h.wait⟩
 ·by_cases e:j=f
  ·subst e;simp only[sup,Dm.upd,if_true];exact hown
  ·simp only[sup,Dm.upd,if_neg e]
   exact(h.file j hj).agree fun b hb=>ho.block b (hlt j hj b hb) fun h1=>h.apart j f hj hf e b hb h1
 ·unfold sup at hb⊢
  by_cases e:j=f
  ·rw[if_pos e]at hb
   rw[if_neg (fun h1=>hjk (e.trans h1.symm))]
   exact nv k hk (fun h1=>hjk (e.trans h1.symm)) b hb
  ·rw[if_neg e]at hb
   by_cases e2:k=f
   ·rw[if_pos e2]
    exact fun h1=>nv j hj e b h1 hb
   ·rw[if_neg e2]
    exact h.apart j k hj hk hjk b hb
 ·refine h.row.agree fun b hb=>ho.block b (h.row.lt b hb).2 fun h1=>?_
  obtain⟨cs,hc⟩:=h.row.type hb
  obtain⟨cs',hc'⟩:=(h.file f hf).type h1
  rw[hc]at hc'
  simp at hc'
 ·exact(h.raw r hr).agree fun b hb=>ho.block b (hrl r hr b hb) fun h1=>h.zA r hr f hf b hb h1
 ·unfold sup
  by_cases e:j=f
  ·rw[if_pos e]
   intro h1
   rcases hat b h1 with h2|h2
   ·exact h.zA r hr f hf b hb h2
   ·have:=hrl r hr b hb;omega
  ·rw[if_neg e]
   exact h.zA r hr j hj b hb
theorem FB.files {f:Nat}(hf:f<4){v:Value}(hat:∀b,v.ownBlock=some b→(s f).ownBlock=some b∨w.heap.size≤b):∀g,FB p (sup s f v) wv rs g→FB p s wv rs g∨w.heap.size≤g:=by
 rintro g (h|⟨j,hj,h⟩|h|h)
 ·exact .inl (.inl h)
 ·unfold sup at h
  by_cases e:j=f
  ·rw[if_pos e]at h
   rcases hat g h with h1|h1
   ·exact .inl (.inr (.inl ⟨f,hf,h1⟩))
   ·exact .inr h1
  ·rw[if_neg e]at h
   exact .inl (.inr (.inl ⟨j,hj,h⟩))
 ·exact .inl (.inr (.inr (.inl h)))
 ·exact .inl (.inr (.inr (.inr h)))
theorem jK.rows (h:jK w sure wait s wv rs)(hrow:dM iY 4 152 0 w' wv' rs')(ho:Out (fun g=>wv.ownBlock=some g) w w')
  (hraw:∀r∈rs',xI (fun _=>True) w r.v r.bytes∧∀f,f<4→∀b,r.v.ownBlock=some b→(s f).ownBlock≠some b) (hw:rs'.map Rv.r=ajg):jK w' sure ajg s wv' rs':=by
 refine⟨fun j hj=>?_,h.apart,hrow,fun r hr=>?_,fun r hr=>(hraw r hr).2,hw⟩
 ·refine(h.file j hj).agree fun b hb=>ho.block b ((h.file j hj).block b hb).2 fun h1=>?_
  obtain⟨cs,hc⟩:=h.row.type h1
  obtain⟨cs',hc'⟩:=(h.file j hj).type hb
  rw[hc]at hc'
  simp at hc'
 ·refine(hraw r hr).1.agree fun b hb=>?_
  obtain⟨_,cs,fr,hc⟩:=(hraw r hr).1.2 b hb
  refine ho.block b (ax hc) fun h1=>?_
  obtain⟨cs',hc'⟩:=h.row.type h1
  rw[hc]at hc'
  simp at hc'
end
end Go.Proofs.YtmngcecomcadkaaGreatDoor
namespace Go.Proofs.YtmngcecomcadkaaGreatDoor
open Go.RowKit Go.Shelf
set_option linter.unusedVariables false
theorem ah2 (s:Nat→Value)(wv:Value)(on:Bool)(aad count:Int)(f:Nat)(hf:f<4)(v:Value):(gD s wv on aad count).setIfInBounds (3+f) v=gD (sup s f v) wv on aad count:=by
 rcases(show f=0∨f=1∨f=2∨f=3 by omega)with rfl|rfl|rfl|rfl<;>simp[gD,sup]
theorem aog {l:List Dm.Rw}{k:Nat}{r:Dm.Rw}(h:l[k]? =some r)(s:Nat→List Int):Dm.dof s (l.take (k+1))=Dm.one (Dm.dof s (l.take k)) r:=by rw[uT h,Dm.anr]
theorem agW (s:Nat→List Int)(l:List Dm.Rw)(f:Nat):(Dm.dof s l f).length≤(s f).length+Dm.gm l:=by
 rw[←Dm.jD]
 exact Dm.lH l (s f) f
theorem dM.jb {P:Program}{α:Type}{c:α→List Value}{k e base:Nat}{w:World}{l:List α}{ao:Option Addr}{cap:Nat}(h:dM c k e base w (.slice ao l.length cap) l){t:TypeId}(ht:P.underlying t=some (.slice (P.elem t)))(hs:∀wx,(sizeOf (P.elem t)).run P wx=.ok k wx)(n:Nat)(hn:n≤l.length):
  ∀wx,(Instr.slice t (.slice ao l.length cap) none (some (.int .i64 n)) none).run P wx=.ok (.slice ao n cap) wx:=by
 intro wx
 rcases h.2 with⟨hv,hz⟩|⟨g,cap',cur,hv,_,_,hc,_⟩
 ·simp only[Value.slice.injEq]at hv
  obtain⟨rfl,_,rfl⟩:=hv
  rw[run_slice_h wx t none l.length 0 ht .i64 _ (by omega) (by omega),hs]
  simp[Result.andThen,sliced]
 ·simp only[Value.slice.injEq,true_and]at hv
  obtain⟨rfl,rfl⟩:=hv
  rw[run_slice_h wx t _ l.length cap ht .i64 _ (by omega) (by omega),hs]
  simp[Result.andThen,sliced,Addr.add]
def abx (p:Nat) (w:World) (st:Dm.Ds) (s:Nat→Value) (wv:Value) (rs:List Rv) (k:Nat) (wr:World):Prop:=
 ∃s',wr.heap[p]? =some (.cells (gD s' wv st.on (eZ st) st.count) 76 (0,0))∧jK wr (Dm.dof st.sure (st.wait.take k)) st.wait s' wv rs∧Out (FB p s wv rs) w wr∧∀g,FB p s' wv rs g→FB p s wv rs g∨w.heap.size≤g
theorem abx.next {p:Nat}{w:World}{st:Dm.Ds}{s s':Nat→Value}{wv:Value}{rs:List Rv}{k:Nat}{wr w2:World}{r:Rv}{v:Value}
  (hB:wr.heap[p]? =some (.cells (gD s' wv st.on (eZ st) st.count) 76 (0,0))) (hC:jK wr (Dm.dof st.sure (st.wait.take k)) st.wait s' wv rs) (hO:Out (FB p s wv rs) w wr) (hF:∀g,FB p s' wv rs g→FB p s wv rs g∨w.heap.size≤g)
  (hk:st.wait[k]? =some r.r) (hf:r.file<4) (ho:Out (fun g=>(s' r.file).ownBlock=some g) wr w2) (hown:Own .u8 5 0 w2 v (Dm.mV (Dm.dof st.sure (st.wait.take k) r.file) r.r)) (hat:∀b,v.ownBlock=some b→(s' r.file).ownBlock=some b∨wr.heap.size≤b):
  abx p w st s wv rs (k+1) (w2.setCell ⟨p,3+r.file,none⟩ v):=by
 have hB2:w2.heap[p]? =some (.cells (gD s' wv st.on (eZ st) st.count) 76 (0,0)):=(ho.block p (ax hB) fun h=>(hC.ne hB (by decide) (by decide)).1 r.file hf p h rfl).trans hB
 have hC2:=hC.files hf hown ho hat
 refine⟨sup s' r.file v,by rw[aH hB2,ah2 _ _ _ _ _ _ hf],?_,?_,fun g hg=>?_⟩
 ·have e:Dm.dof st.sure (st.wait.take (k+1))=Dm.upd (Dm.dof st.sure (st.wait.take k)) r.file (Dm.mV (Dm.dof st.sure (st.wait.take k) r.file) r.r):=by rw[aog hk];rfl
  rw[e]
  exact hC2.but hB2 (by decide) (by decide) fun b hb _=>Below.heap_setCell _ _ _ _ hb
 ·have h1:Out (FB p s wv rs) w w2:=hO.trans ho fun g hg=>hF g (.inr (.inl ⟨_,hf,hg⟩))
  exact h1.trans (Out.aQ (F:=fun g=>g=p) (az w2 ⟨p,3+r.file,none⟩ v) fun g hg=>by simp at hg;exact hg.symm) fun g hg=>.inl (.inl hg)
 ·rcases FB.files hf hat g hg with h1|h1
  ·exact hF g h1
  ·exact .inr (Nat.le_trans hO.size h1)
theorem Tryz.akY:∀args w,(callFunc 185 args).run Tryz.prog w=.ok (.enter 185 args) w:=enters_of Tryz.func185 (by kernel_rfl) rfl
theorem ajw (p:Nat)(F:Nat→Prop)(w:World)(st:Dm.Ds)(n:Nat)(h:Pk p F w st)(hn:n≤st.wait.length)(hsz:∀f,(st.sure f).length+Dm.gm st.wait≤140737488355000)(hw:st.wait.length≤1000000):
  Calls Tryz.prog 138 #[.pointer (some ⟨p,0,none⟩),.int .i64 n] w fun E w'=>(∃v,E=.returned v)∧aV p F w w' {st with sure:=Dm.dof st.sure (st.wait.take n),wait:=st.wait.drop n}:=by
 obtain⟨s,wv,rs,h,rfl⟩:=h
 have hlr:=h.iO.len
 have c7:=h.c7
 obtain⟨ao,cap,hv,hcap,hcm⟩:=h.iO.row.row.shape
 have hsl:∀wx,(Instr.slice 74 wv none (some (.int .i64 n)) none).run Tryz.prog wx=.ok (.slice ao n cap) wx:=by
  have:=h.iO.row
  rw[hv]at this⊢
  exact this.jb Tryz.aaR Tryz.aaz n (by omega)
 have hao:0<rs.length→∃b,ao=some ⟨b,0,none⟩∧wv.ownBlock=some b:=by
  intro h0
  rcases h.iO.row.2 with⟨_,h1⟩|⟨g,cap',cur,h1,_⟩
  ·omega
  ·rw[hv]at h1
   simp only[Value.slice.injEq,true_and]at h1
   exact⟨g,h1.1,by rw[hv,h1.1];rfl⟩
 have H:=hide h
 have HAO:=hide hao
 have HLR:=hide hlr
 have hnL:n≤rs.length:=by omega
 have I0:Hid (abx p w st s wv rs 0 w):=hide ⟨s,h.blk,by simpa[Dm.dof]using h.iO,Out.refl _ _,fun g hg=>.inl hg⟩
 clear h hao hlr hv
 go_enter Tryz.func138,Tryz.ntmps138
 go_wp2
 go_loopw [13] (fun iv wr=>∃k:Nat,k≤n∧iv=.int .i64 k∧Hid (abx p w st s wv rs k wr)) (fun iv _=>n-(intOf iv).toNat)
 case atStart=>exact⟨0,by omega,rfl,I0⟩
 case round=>
  obtain⟨k,hk,rfl,I⟩:=hrel
  obtain⟨s',hB,hC,hO,hF⟩:=I.out
  have HO:=hide hO
  have HF:=hide hF
  have HBp:=hide hB
  by_cases hlt:k<n
  ·obtain⟨g,rfl,hg⟩:=HAO.out (by omega)
   obtain⟨r,hr⟩:∃r,rs[k]? =some r:=⟨rs[k],by rw[List.getElem?_eq_getElem]⟩
   have hcell:=fun j u hj=>hC.row.cells hg (k*4+j) u (rH lX rs k r hr j u hj)
   have e0:wr.cell? ⟨g,k*4,none⟩=some (.int .i64 (kr r)):=by have:=hcell 0 _ rfl;rwa[gF,Nat.zero_add]at this
   have e1:wr.cell? ⟨g,k*4+1,none⟩=some (.int .i64 r.file):=by have:=hcell 1 _ rfl;rwa[gF,Nat.zero_add]at this
   have e2:wr.cell? ⟨g,k*4+2,none⟩=some r.v:=by have:=hcell 2 _ rfl;rwa[gF,Nat.zero_add]at this
   have e3:wr.cell? ⟨g,k*4+3,none⟩=some (.int .i64 r.to):=by have:=hcell 3 _ rfl;rwa[gF,Nat.zero_add]at this
   obtain⟨V,hV,hV2,jX,bf,bV,x0,x1,x2,x3⟩:=afG wr 152 (.int .i64 0) (.int .i64 0) (.slice none 0 0) (.int .i64 0) (.int .i64 (kr r)) (.int .i64 r.file) r.v (.int .i64 r.to)
   have hst:st.wait[k]? =some r.r:=by rw[←H.out.iO.wait,List.getElem?_map,hr];rfl
   have hfit:=Dm.aeZ H.out.ok hst
   have hf:r.file<4:=hfit.1
   have hbl:=ahC hst
   have hdl:=agW st.sure (st.wait.take k) r.file
   have apc:=hsz r.file
   obtain⟨ar,cr,mP,_,_⟩:=(hC.raw r (List.mem_of_getElem? hr)).1.shape
   have ir:=((hC.raw r (List.mem_of_getElem? hr)).1).below bf
   have cfv:V.cell? ⟨p,3+r.file,none⟩=some (s' r.file):=(bf.cell (p:=⟨p,3+r.file,none⟩) (ax hB)).trans (an3 (cs:=#[]) hB r.file hf)
   obtain⟨af,nf,cpf,hsf⟩:=(hC.file r.file hf).is.form
   have hne:∀b,(s' r.file).ownBlock=some b→b<wr.heap.size:=fun b hb=>((hC.file r.file hf).block b hb).2
   have BI:Hid (Calls Tryz.prog 185 #[.agg #[.int .i64 (kr r),.int .i64 r.file,r.v,.int .i64 r.to],s' r.file] V.drew fun E w2=>∃v2,E=.returned v2∧(abx p w st s wv rs (k+1) (w2.setCell ⟨p,3+r.file,none⟩ v2)∧(w2.cell? ⟨wr.heap.size,0,none⟩=some (.int .i64 (kr r))∧w2.cell? ⟨wr.heap.size,1,none⟩=some (.int .i64 r.file)∧w2.cell? ⟨wr.heap.size,2,none⟩=some r.v∧w2.cell? ⟨wr.heap.size,3,none⟩=some (.int .i64 r.to))∧w2.cell? ⟨p,3+r.file,none⟩=some (s' r.file)∧w2.frozen? ⟨p,3+r.file,none⟩=false∧∃a n c,v2=.slice a n c)):=hide (by
    refine(aaI 0 (s' r.file) _ r V.drew (((hC.file r.file hf).below bf).drewN 1) (Nat.zero_le _) (ir.drewN 1) (fun hc=>hfit.2.1 hc) (by have:r.r.bytes=r.bytes:=rfl;rw[this]at hbl;omega)).mono ?_
    rintro E w2 ⟨v2,rfl,aP,aga,at2⟩
    have aqO:Out (fun g=>(s' r.file).ownBlock=some g) wr w2:=(Out.of_below (F:=fun g=>(s' r.file).ownBlock=some g) ((bf).trans (below_drewN (Below.refl _ _) 1))).trans aga fun g hg=>.inl hg
    have hb2:w2.heap[wr.heap.size]? =some (.cells #[.int .i64 (kr r),.int .i64 r.file,r.v,.int .i64 r.to] 152 (0,0)):=(aga.block wr.heap.size (show wr.heap.size<V.heap.size by omega) fun h=>by have:=hne _ h;omega).trans bV
    have hp2:w2.heap[p]? =some (.cells (gD s' wv st.on (eZ st) st.count) 76 (0,0)):=(aqO.block p (ax hB) fun h=>(hC.ne hB (by decide) (by decide)).1 r.file hf p h rfl).trans hB
    refine⟨v2,rfl,abx.next hB hC HO.out HF.out hst hf aqO aP (fun b hb=>?_),⟨ai hb2 0 rfl,ai hb2 1 rfl,ai hb2 2 rfl,ai hb2 3 rfl⟩,an3 (cs:=#[]) hp2 r.file hf,aA hp2 _,aP.is.form⟩
    rcases at2 b hb with h1|h1
    ·exact .inl h1
    ·exact .inr (by have h2:V.drew.heap.size=V.heap.size:=rfl;omega))
   have hlt':(k:Int)<n:=by omega
   have hk0:(0:Int)≤(k:Int):=by omega
   have hf0:(0:Int)≤(r.file:Int):=by omega
   have hf4:(r.file:Int)<4:=by omega
   have hp:p<wr.heap.size:=ax hB
   rw[mP]at e2 hV hV2 x2 BI
   rw[hsf]at cfv BI
   clear hcell hr hst hfit hbl hdl apc ir hne hC hO hF hB bV I mP hsf hg
   go_wp2_with fail
   go_region_law (refine qf rfl 185 #[.tmp 20,.tmp 27] #[152,61] rfl Tryz.akY #[.agg #[.int .i64 (kr r),.int .i64 r.file,.slice ar r.bytes.length cr,.int .i64 r.to],.slice af nf cpf] (by first|rfl|(simp[Act.eval];done)) BI.out ?_;rintro v2 w2 ⟨J,⟨y0,y1,y2,y3⟩,cp2,fp2,a2,n2,c2,rfl⟩;have J:=hide J)
   all_goals
    go_wp2
    go_roundw
    case rel=>exact⟨k+1,by omega,by go_num,J⟩
    case measure=>simp[intOf];omega
  ·obtain rfl:k=n:=by omega
   have c7r:wr.cell? ⟨p,7,none⟩=some wv:=ai hB 7 rfl
   have hlt':¬(k:Int)<k:=by omega
   have DI:Hid (Calls Tryz.prog 186 #[wv,.int .i64 0,.int .i64 k] wr fun E w4=>∃v4,E=.returned v4∧(aV p (FB p s wv rs) w (w4.setCell ⟨p,7,none⟩ v4) {st with sure:=Dm.dof st.sure (st.wait.take k),wait:=st.wait.drop k}∧w4.cell? ⟨p,7,none⟩=some wv∧w4.frozen? ⟨p,7,none⟩=false∧∃a n c,v4=.slice a n c)):=hide (by
    refine(asW wr wv rs k hC.row (fun r hr=>(hC.raw r hr).1.form) hnL (by have:=HLR.out;omega)).mono ?_
    rintro E w4 ⟨v4,rfl,abO,anl,ob4⟩
    have hC4:jK w4 (Dm.dof st.sure (st.wait.take k)) (st.wait.drop k) s' v4 (rs.drop k):=hC.rows abO anl (fun r hr=>⟨hC.raw r (List.mem_of_mem_drop hr),hC.zA r (List.mem_of_mem_drop hr)⟩) (by rw[←hC.wait,List.map_drop])
    have lK:w4.heap[p]? =some (.cells (gD s' wv st.on (eZ st) st.count) 76 (0,0)):=(anl.block p (ax hB) fun h=>(hC.ne hB (by decide) (by decide)).2.1 p h rfl).trans hB
    have hok:Dm.valid (Dm.dof st.sure (st.wait.take k)) (st.wait.drop k):=by
     have:=H.out.ok
     unfold Dm.Ok at this
     rw[←List.take_append_drop k st.wait,Dm.qQ]at this
     exact this.2
    obtain⟨R1,R2⟩:=fH.put (st':={st with sure:=Dm.dof st.sure (st.wait.take k),wait:=st.wait.drop k}) (s':=s') (wv':=v4) (rs':=rs.drop k) lK 7 v4 rfl hC4 hok
    refine⟨v4,rfl,⟨_,⟨s',v4,rs.drop k,R1,rfl⟩,?_,?_⟩,ai lK 7 rfl,aA lK 7,?_⟩
    ·have h1:Out (FB p s wv rs) w w4:=hO.trans anl fun g hg=>hF g (.inr (.inr (.inl hg)))
     exact h1.trans R2 fun g hg=>.inl (.inl hg)
    ·rintro g (h1|h1|h1|⟨r,hr,h1⟩)
     ·exact hF g (.inl h1)
     ·exact hF g (.inr (.inl h1))
     ·exact hF g (.inr (.inr (.inl (by rw[←ob4];exact h1))))
     ·exact hF g (.inr (.inr (.inr ⟨r,List.mem_of_mem_drop hr,h1⟩)))
    ·obtain⟨a,c,hv,_⟩:=abO.row.shape
     exact⟨a,_,c,hv⟩)
   clear hC hO hF hB I HO HF HBp
   go_wp2_with fail
   refine DI.out.mono ?_
   rintro E w4 ⟨v4,rfl,J,c4,f4,a4,n4,k4,rfl⟩
   have J:=hide J
   go_wp2
   go_end0
   exact⟨⟨_,rfl⟩,J.out⟩
end Go.Proofs.YtmngcecomcadkaaGreatDoor
namespace Go.Proofs.YtmngcecomcadkaaGreatDoor
open Go.RowKit Go.Shelf
set_option linter.unusedVariables false
def torn (st:Dm.Ds) (t:Nat):Nat→List Int:=
 match st.wait[0]? with
 |some r=>if r.cut then st.sure else Dm.one st.sure ⟨r.file,false,0,r.bytes.take (min t (r.bytes.length-1))⟩
 |none=>st.sure
end Go.Proofs.YtmngcecomcadkaaGreatDoor
namespace Go.Proofs.YtmngcecomcadkaaGreatDoor
open Go.RowKit Go.Shelf
set_option linter.unusedVariables false
theorem arH {st:Dm.Ds}{r:Dm.Rw}(h:Dm.Ok st)(hf:Dm.fits (Dm.dof st.sure st.wait) r):Dm.Ok (Dm.push st r):=by
 unfold Dm.Ok Dm.push at*
 rw[Dm.qQ]
 exact⟨h,hf,trivial⟩
theorem acm {p:Nat}{W:World}{st:Dm.Ds}{s:Nat→Value}{wv:Value}{rs:List Rv}(h:fH p W st s wv rs)(r:Rv)(hraw:xI (fun _=>True) W r.v r.bytes)(hra:∀f,f<4→∀b,r.v.ownBlock=some b→(s f).ownBlock≠some b)(hfit:Dm.fits (Dm.dof st.sure st.wait) r.r)(hlen:rs.length≤1000000):
  ∃V,W.drew.alloc (.cells #[.int .i64 (kr r),.int .i64 r.file,r.v,.int .i64 r.to] 152)=V∧V.cell? ⟨p,7,none⟩=some wv∧Hid (∀ty,∃v' w',(Builtin.append_ #[74,74] ty #[wv,.slice (some ⟨W.heap.size,0,none⟩) 1 1]).run Tryz.prog V=.ok v' w'∧
   ((∃F',Pk p F' (w'.setCell ⟨p,7,none⟩ v') (Dm.push st r.r)∧Out (FB p s wv rs) W (w'.setCell ⟨p,7,none⟩ v')∧∀g,F' g→FB p s wv rs g∨W.heap.size≤g∨r.v.ownBlock=some g)∧w'.cell? ⟨p,7,none⟩=some wv∧w'.frozen? ⟨p,7,none⟩=false∧∃a n c,v'=.slice a n c)):=by
 obtain⟨a0,n0,k0,mP⟩:=hraw.1.form
 obtain⟨V,hV,jX,bf,ayZ⟩:=rR iY 4 lX 152 W.drew #[.int .i64 (kr r),.int .i64 r.file,r.v,.int .i64 r.to] 1 [r] rfl rfl (by decide)
 have fE:Below W.heap.size W V:=(below_drewN (Below.refl _ _) 1).trans bf
 have hV1:=h.below fE
 refine⟨V,hV,hV1.c7,hide fun ty=>?_⟩
 obtain⟨v',w',hr,own',gr',at'⟩:=oC (P:=Tryz.prog) 74 ty iY 4 48 lX (by decide) (by decide) (.agg #[.int .i64 0,.int .i64 0,.slice none 0 0,.int .i64 0]) rfl 152 0 Tryz.underlying74 Tryz.agJ wv rs hV1.iO.row _ [r] ayZ.row (acK [r] fun q hq=>by simp at hq;subst hq;exact hraw.1.form) (by simp;omega) (Nat.zero_le _)
 have out':Out (fun g=>wv.ownBlock=some g) V w':=Out.aQ gr' fun g hg=>hg
 have hC':jK w' st.sure (st.wait++[r.r]) s v' (rs++[r]):=hV1.iO.rows own' out' (fun q hq=>by
  rcases List.mem_append.1 hq with hq|hq
  ·exact⟨hV1.iO.raw q hq,hV1.iO.zA q hq⟩
  ·simp at hq
   subst hq
   exact⟨hraw.agree fun b hb=>by obtain⟨_,cs,fr,hc⟩:=hraw.2 b hb;exact fE.block b (ax hc),hra⟩) (by rw[List.map_append,h.iO.wait];rfl)
 have hp':w'.heap[p]? =some (.cells (gD s wv st.on (eZ st) st.count) 76 (0,0)):=(out'.block p (ax hV1.blk) fun h1=>(hV1.iO.ne hV1.blk (by decide) (by decide)).2.1 p h1 rfl).trans hV1.blk
 obtain⟨R1,R2⟩:=fH.put (st':=Dm.push st r.r) (s':=s) (wv':=v') (rs':=rs++[r]) hp' 7 v' rfl hC' (arH h.ok hfit)
 refine⟨v',w',hr,⟨_,⟨s,v',rs++[r],R1,rfl⟩,?_,?_⟩,ai hp' 7 rfl,aA hp' 7,?_⟩
 ·have h1:Out (FB p s wv rs) W w':=(Out.of_below fE).trans out' fun g hg=>.inl (.inr (.inr (.inl hg)))
  exact h1.trans R2 fun g hg=>.inl (.inl hg)
 ·rintro g (h1|h1|h1|⟨q,hq,h1⟩)
  ·exact .inl (.inl h1)
  ·exact .inl (.inr (.inl h1))
  ·rcases at' with h2|h2
   ·exact .inl (.inr (.inr (.inl (by rw[←h2];exact h1))))
   ·rw[h1]at h2
    simp at h2
    exact .inr (.inl (by have:=fE.size;omega))
  ·rcases List.mem_append.1 hq with hq|hq
   ·exact .inl (.inr (.inr (.inr ⟨q,hq,h1⟩)))
   ·simp at hq
    subst hq
    exact .inr (.inr h1)
 ·obtain⟨a,c,hv,_⟩:=own'.row.shape
  exact⟨a,_,c,hv⟩
theorem count_tail {p:Nat}{w:World}{st:Dm.Ds}{s:Nat→Value}{wv:Value}{rs:List Rv}(h:fH p w st s wv rs)(hh:st.has=false):
  ∃V,w.setCell ⟨p,8,none⟩ (.int .i64 ((st.count:Int)+1))=V∧fH p V (Dm.bB st) s wv rs∧Out (FB p s wv rs) w V∧V.heap.size=w.heap.size∧∀g,g≠p→V.heap[g]? =w.heap[g]? :=by
 have hb:Dm.bB st={st with count:=st.count+1}:=by simp[Dm.bB,hh]
 obtain⟨R1,R2⟩:=h.set (st':=Dm.bB st) 8 (.int .i64 ((st.count:Int)+1)) (by rw[hb];simp[gD,eZ,hh]) (by rw[hb]) (by rw[hb])
 exact⟨_,rfl,R1,R2,by simp[World.setCell],fun g hg=>Below.heap_setCell _ _ _ _ hg⟩
theorem acP {p:Nat}{w:World}{st:Dm.Ds}{s:Nat→Value}{wv:Value}{rs:List Rv}(h:fH p w st s wv rs)(hh:st.has=true)(hl:1≤st.left):
  ∃U V,w.setCell ⟨p,2,none⟩ (.int .i64 ((st.left:Int)-1))=U∧U.setCell ⟨p,8,none⟩ (.int .i64 ((st.count:Int)+1))=V∧U.cell? ⟨p,8,none⟩=some (.int .i64 st.count)∧U.frozen? ⟨p,8,none⟩=false∧fH p V (Dm.bB st) s wv rs∧Out (FB p s wv rs) w V∧V.heap.size=w.heap.size∧∀g,g≠p→V.heap[g]? =w.heap[g]? :=by
 have hb:Dm.bB st={st with left:=st.left-1,count:=st.count+1}:=by simp[Dm.bB,hh]
 have hsub:((st.left-1:Nat):Int)=(st.left:Int)-1:=by omega
 obtain⟨R1,R2⟩:=h.set (st':={st with left:=st.left-1}) 2 (.int .i64 ((st.left:Int)-1)) (by simp[gD,eZ,hh,hsub]) rfl rfl
 obtain⟨R3,R4⟩:=R1.set (st':=Dm.bB st) 8 (.int .i64 ((st.count:Int)+1)) (by rw[hb];simp[gD,eZ,hh]) (by rw[hb]) (by rw[hb])
 exact⟨_,_,rfl,rfl,R1.c8,R1.lu 8,R3,R2.trans R4 fun g hg=>.inl hg,by simp[World.setCell],fun g hg=>(Below.heap_setCell _ _ _ _ hg).trans (Below.heap_setCell _ _ _ _ hg)⟩
def PDo (p:Nat) (F:Nat→Prop) (w:World) (st':Dm.Ds) (v:Value) (w':World):Prop:=∃F',Pk p F' w' st'∧Out F w w'∧∀g,F' g→F g∨w.heap.size≤g∨v.ownBlock=some g
theorem PDo.asx {p:Nat}{F:Nat→Prop}{w w':World}{st':Dm.Ds}{v:Value}(h:aV p F w w' st'):PDo p F w st' v w':=by
 obtain⟨F',h1,h2,h3⟩:=h
 exact⟨F',h1,h2,fun g hg=>(h3 g hg).elim .inl fun h=>.inr (.inl h)⟩
theorem abj (p:Nat)(F:Nat→Prop)(w:World)(st:Dm.Ds)(r:Rv)(h:Pk p F w st)(hraw:xI (fun _=>True) w r.v r.bytes)(hra:∀b,r.v.ownBlock=some b→¬F b)(hfit:Dm.fits (Dm.dof st.sure st.wait) r.r)(hlen:st.wait.length≤1000000)(hl:st.left≤9223372036854775807)(hc:st.count<9223372036854775807):
  Calls Tryz.prog 100 #[.pointer (some ⟨p,0,none⟩),.agg #[.int .i64 (kr r),.int .i64 r.file,r.v,.int .i64 r.to]] w fun E w'=>E=.returned (.int .i64 (if Dm.off st then 6 else 0))∧PDo p F w (if Dm.off st then Dm.ig st else Dm.push (Dm.bB st) r.r) r.v w':=by
 obtain⟨s,wv,rs,h,rfl⟩:=h
 obtain⟨a0,n0,k0,mP⟩:=hraw.1.form
 obtain⟨w1,hw1,aT,aj,hB⟩:=ak w #[.int .i64 (kr r),.int .i64 r.file,r.v,.int .i64 r.to] 152
 have h1:=h.below aj
 have c1:=h1.c1
 have c2:=h1.c2
 have c8:=h1.c8
 have f1:=h1.lu 1
 have f2:=h1.lu 2
 have f8:=h1.lu 8
 have uo:xI (fun _=>True) w1 r.v r.bytes:=hraw.agree fun b hb=>by obtain⟨_,cs,fr,hc⟩:=hraw.2 b hb;exact aj.block b (ax hc)
 have zD:∀f,f<4→∀b,r.v.ownBlock=some b→(s f).ownBlock≠some b:=fun f hf b hb h2=>hra b hb (.inr (.inl ⟨f,hf,h2⟩))
 have hnp:∀b,r.v.ownBlock=some b→b≠p:=fun b hb h2=>hra b hb (.inl h2)
 have hpw:p<w.heap.size:=ax h.blk
 have hlr:=h.iO.len
 have avR:kr r=0∨kr r=1:=by unfold kr;split<;>simp
 by_cases hoff:Dm.off st=true
 ·rw[hoff,if_pos rfl,if_pos rfl]
  have hz:eZ st=0:=by
   simp[Dm.off]at hoff
   simp[eZ,hoff.1,hoff.2]
  obtain⟨R1,R2⟩:=h1.set (st':=Dm.ig st) 1 (.bool false) rfl rfl rfl
  have HR:Hid (PDo p (FB p s wv rs) w (Dm.ig st) r.v (w1.setCell ⟨p,1,none⟩ (.bool false))):=hide (PDo.asx (aV.pre aj (aV.akJ R1 R2)))
  rw[hz]at c2
  rw[mP]at hw1 HR⊢
  clear h h1 R1 R2 hB hraw uo hra zD hnp hfit hlr hz hoff mP
  go_enter Tryz.func100,Tryz.ntmps100
  go_wp2
  go_ret
  exact⟨rfl,HR.out⟩
 ·have pO:Dm.off st=false:=by simpa using hoff
  rw[pO,if_neg (by simp),if_neg (by simp)]
  cases hh:st.has
  ·have hz:eZ st=-1:=by simp[eZ,hh]
   obtain⟨W,hW,oH,jT,szW,ql⟩:=count_tail h1 hh
   have hBW:=(ql w.heap.size (by omega)).trans hB
   have x0:W.cell? ⟨w.heap.size,0,none⟩=some (.int .i64 (kr r)):=ai hBW 0 rfl
   have x1:W.cell? ⟨w.heap.size,1,none⟩=some (.int .i64 r.file):=ai hBW 1 rfl
   have x2:W.cell? ⟨w.heap.size,2,none⟩=some r.v:=ai hBW 2 rfl
   have x3:W.cell? ⟨w.heap.size,3,none⟩=some (.int .i64 r.to):=ai hBW 3 rfl
   have hb:(Dm.bB st).sure=st.sure∧(Dm.bB st).wait=st.wait:=⟨rfl,rfl⟩
   obtain⟨V,hV,v7,X⟩:=acm oH r (uo.agree fun b hb=>ql b (hnp b hb)) zD (by rw[hb.1,hb.2];exact hfit) (by omega)
   have X2:Hid (∀ty,∃v' w',(Builtin.append_ #[74,74] ty #[wv,.slice (some ⟨W.heap.size,0,none⟩) 1 1]).run Tryz.prog V=.ok v' w'∧(PDo p (FB p s wv rs) w (Dm.push (Dm.bB st) r.r) r.v (w'.setCell ⟨p,7,none⟩ v')∧w'.cell? ⟨p,7,none⟩=some wv∧w'.frozen? ⟨p,7,none⟩=false∧∃a n c,v'=.slice a n c)):=hide fun ty=>by
    obtain⟨v',w',hr,⟨F',g1,g2,g3⟩,h3⟩:=X.out ty
    refine⟨v',w',hr,⟨F',g1,((Out.of_below aj).trans jT fun g hg=>.inl hg).trans g2 fun g hg=>.inl hg,fun g hg=>?_⟩,h3⟩
    rcases g3 g hg with h4|h4|h4
    ·exact .inl h4
    ·exact .inr (.inl (by omega))
    ·exact .inr (.inr h4)
   have w7:W.cell? ⟨p,7,none⟩=some wv:=oH.c7
   rw[hz]at c2
   rw[mP]at hw1 x2 hV X2⊢
   have hcw:IntKind.i64.wrap ((st.count:Int)+1)=(st.count:Int)+1:=kF _ (by omega) (by omega)
   rcases avR with hk|hk
   ·rw[hk]at hw1 x0 hV⊢
    clear h h1 hB hraw uo hra zD hnp hfit hlr hz hoff pO mP oH jT ql hBW hb X hk hh
    go_enter Tryz.func100,Tryz.ntmps100
    go_wp2_with fail
    go_region_law (refine fo rfl (.tmp 41) (.tmp 43) 74 rfl wv (.slice (some ⟨W.heap.size,0,none⟩) 1 1) (by first|rfl|(simp[Act.eval];done)) (by first|rfl|(simp[Act.eval];done)) X2.out ?_;rintro v5 w5 ⟨J,d7,g7,a5,n5,c5,rfl⟩;have J:=hide J)
    all_goals
     go_wp2
     go_ret
     exact⟨rfl,J.out⟩
   ·rw[hk]at hw1 x0 hV⊢
    clear h h1 hB hraw uo hra zD hnp hfit hlr hz hoff pO mP oH jT ql hBW hb X hk hh
    go_enter Tryz.func100,Tryz.ntmps100
    go_wp2_with fail
    go_region_law (refine fo rfl (.tmp 41) (.tmp 43) 74 rfl wv (.slice (some ⟨W.heap.size,0,none⟩) 1 1) (by first|rfl|(simp[Act.eval];done)) (by first|rfl|(simp[Act.eval];done)) X2.out ?_;rintro v5 w5 ⟨J,d7,g7,a5,n5,c5,rfl⟩;have J:=hide J)
    all_goals
     go_wp2
     go_ret
     exact⟨rfl,J.out⟩
  ·have hl1:1≤st.left:=by
    simp[Dm.off,hh]at hoff
    omega
   have hz:eZ st=st.left:=by simp[eZ,hh]
   obtain⟨U,W,hU,hW,u8,fu8,oH,jT,szW,ql⟩:=acP h1 hh hl1
   have hBW:=(ql w.heap.size (by omega)).trans hB
   have x0:W.cell? ⟨w.heap.size,0,none⟩=some (.int .i64 (kr r)):=ai hBW 0 rfl
   have x1:W.cell? ⟨w.heap.size,1,none⟩=some (.int .i64 r.file):=ai hBW 1 rfl
   have x2:W.cell? ⟨w.heap.size,2,none⟩=some r.v:=ai hBW 2 rfl
   have x3:W.cell? ⟨w.heap.size,3,none⟩=some (.int .i64 r.to):=ai hBW 3 rfl
   have hb:(Dm.bB st).sure=st.sure∧(Dm.bB st).wait=st.wait:=⟨rfl,rfl⟩
   obtain⟨V,hV,v7,X⟩:=acm oH r (uo.agree fun b hb=>ql b (hnp b hb)) zD (by rw[hb.1,hb.2];exact hfit) (by omega)
   have X2:Hid (∀ty,∃v' w',(Builtin.append_ #[74,74] ty #[wv,.slice (some ⟨W.heap.size,0,none⟩) 1 1]).run Tryz.prog V=.ok v' w'∧(PDo p (FB p s wv rs) w (Dm.push (Dm.bB st) r.r) r.v (w'.setCell ⟨p,7,none⟩ v')∧w'.cell? ⟨p,7,none⟩=some wv∧w'.frozen? ⟨p,7,none⟩=false∧∃a n c,v'=.slice a n c)):=hide fun ty=>by
    obtain⟨v',w',hr,⟨F',g1,g2,g3⟩,h3⟩:=X.out ty
    refine⟨v',w',hr,⟨F',g1,((Out.of_below aj).trans jT fun g hg=>.inl hg).trans g2 fun g hg=>.inl hg,fun g hg=>?_⟩,h3⟩
    rcases g3 g hg with h4|h4|h4
    ·exact .inl h4
    ·exact .inr (.inl (by omega))
    ·exact .inr (.inr h4)
   have w7:W.cell? ⟨p,7,none⟩=some wv:=oH.c7
   rw[hz]at c2
   rw[mP]at hw1 x2 hV X2⊢
   have hcw:IntKind.i64.wrap ((st.count:Int)+1)=(st.count:Int)+1:=kF _ (by omega) (by omega)
   have hlw:IntKind.i64.wrap ((st.left:Int)-1)=(st.left:Int)-1:=kF _ (by omega) (by omega)
   have hl0:((st.left:Int)==0)=false:=beq_eq_false_iff_ne.2 (by omega)
   have hlm:((st.left:Int)==-1)=false:=beq_eq_false_iff_ne.2 (by omega)
   rcases avR with hk|hk
   ·rw[hk]at hw1 x0 hV⊢
    clear h h1 hB hraw uo hra zD hnp hfit hlr hz hoff pO mP oH jT ql hBW hb X hk hh
    go_enter Tryz.func100,Tryz.ntmps100
    go_wp2_with fail
    go_region_law (refine fo rfl (.tmp 41) (.tmp 43) 74 rfl wv (.slice (some ⟨W.heap.size,0,none⟩) 1 1) (by first|rfl|(simp[Act.eval];done)) (by first|rfl|(simp[Act.eval];done)) X2.out ?_;rintro v5 w5 ⟨J,d7,g7,a5,n5,c5,rfl⟩;have J:=hide J)
    all_goals
     go_wp2
     go_ret
     exact⟨rfl,J.out⟩
   ·rw[hk]at hw1 x0 hV⊢
    clear h h1 hB hraw uo hra zD hnp hfit hlr hz hoff pO mP oH jT ql hBW hb X hk hh
    go_enter Tryz.func100,Tryz.ntmps100
    go_wp2_with fail
    go_region_law (refine fo rfl (.tmp 41) (.tmp 43) 74 rfl wv (.slice (some ⟨W.heap.size,0,none⟩) 1 1) (by first|rfl|(simp[Act.eval];done)) (by first|rfl|(simp[Act.eval];done)) X2.out ?_;rintro v5 w5 ⟨J,d7,g7,a5,n5,c5,rfl⟩;have J:=hide J)
    all_goals
     go_wp2
     go_ret
     exact⟨rfl,J.out⟩
end Go.Proofs.YtmngcecomcadkaaGreatDoor
namespace Go.Proofs.YtmngcecomcadkaaGreatDoor
open Go.RowKit
set_option linter.unusedVariables false
namespace Rol
open Pm (Pg chk no Ok)
def ck (x:Pg) (n lo hi:Int):Int:=if chk x=0 then(if n<lo∨hi<n then 2 else 0)else chk x
def own (x:Pg):Int:=if x.r=1 then 0 else if x.r=2 then 1 else if x.p=1 then 2 else if x.p=2 then 3 else if x.p=3 then 4 else 5
end Rol
theorem ase (x:Pm.Pg)(n lo hi:Int)(w:World)(hx:eU x)(hm:eH w):
  Calls Tryz.prog 170 #[vp x,.int .i64 n,.int .i64 lo,.int .i64 hi] w fun E w'=>E=.returned (.int .i64 (Rol.ck x n lo hi))∧Below w.heap.size w w':=by
 obtain⟨w2,hw2,dz,au,hP⟩:=ak w #[.int .i64 x.e,.int .u8 x.r,.int .i64 x.a,.int .u8 x.p,.int .i64 x.f,.int .i64 x.b] 46
 obtain⟨p0,p1,p2,p3,p4,p5⟩:=aN hP
 have CK:=hide (iQ x w2 hx (hm.below au))
 have PST:Hid (∀W,Below w2.heap.size w2 W→Below w.heap.size w W):=hide fun W hW=>au.trans (hW.mono (by omega))
 unfold Rol.ck
 obtain⟨ch,hch⟩:∃c,Pm.chk x=c:=⟨_,rfl⟩
 rw[hch]at CK⊢
 clear au hx hP hm hch
 by_cases h0:ch=0
 ·subst h0
  rw[if_pos rfl]
  by_cases h1:n<lo
  ·rw[if_pos (.inl h1)]
   unfold vp
   go_enter Tryz.func170,Tryz.ntmps170
   go_wp2_with fail
   refine CK.out.mono ?_
   rintro E w3 ⟨rfl,b3⟩
   have BB:=hide (PST.out w3 b3)
   clear CK PST b3
   go_wp2
   go_ret
   exact⟨rfl,BB.out⟩
  ·by_cases h2:hi<n
   ·rw[if_pos (.inr h2)]
    unfold vp
    go_enter Tryz.func170,Tryz.ntmps170
    go_wp2_with fail
    refine CK.out.mono ?_
    rintro E w3 ⟨rfl,b3⟩
    have BB:=hide (PST.out w3 b3)
    clear CK PST b3
    go_wp2
    go_ret
    exact⟨rfl,BB.out⟩
   ·rw[if_neg (by omega)]
    unfold vp
    go_enter Tryz.func170,Tryz.ntmps170
    go_wp2_with fail
    refine CK.out.mono ?_
    rintro E w3 ⟨rfl,b3⟩
    have BB:=hide (PST.out w3 b3)
    clear CK PST b3
    go_wp2
    go_ret
    exact⟨rfl,BB.out⟩
 ·rw[if_neg h0]
  have hb:(ch !=0)=true:=by simpa using h0
  unfold vp
  go_enter Tryz.func170,Tryz.ntmps170
  go_wp2_with fail
  refine CK.out.mono ?_
  rintro E w3 ⟨rfl,b3⟩
  have BB:=hide (PST.out w3 b3)
  clear CK PST b3
  go_wp2
  go_ret
  exact⟨rfl,BB.out⟩
theorem qJ (x:Pm.Pg)(w:World):
  Calls Tryz.prog 199 #[vp x] w fun E w'=>E=.returned (.int .i64 (Rol.own x))∧Below w.heap.size w w':=by
 obtain⟨w2,hw2,dz,au,hP⟩:=ak w #[.int .i64 x.e,.int .u8 x.r,.int .i64 x.a,.int .u8 x.p,.int .i64 x.f,.int .i64 x.b] 46
 obtain⟨p0,p1,p2,p3,p4,p5⟩:=aN hP
 unfold Rol.own
 have BB:=hide au
 clear au hP
 unfold vp
 by_cases h0:x.r=1
 ·rw[if_pos h0]
  have g0:(x.r==1)=true:=by simpa using h0
  clear h0
  go_enter Tryz.func199,Tryz.ntmps199
  go_wp2
  go_ret
  exact⟨rfl,BB.out⟩
 rw[if_neg h0]
 have g0:(x.r==1)=false:=by simpa using h0
 by_cases h1:x.r=2
 ·rw[if_pos h1]
  have g1:(x.r==2)=true:=by simpa using h1
  clear h1
  go_enter Tryz.func199,Tryz.ntmps199
  go_wp2
  go_ret
  exact⟨rfl,BB.out⟩
 rw[if_neg h1]
 have g1:(x.r==2)=false:=by simpa using h1
 by_cases h2:x.p=1
 ·rw[if_pos h2]
  have g2:(x.p==1)=true:=by simpa using h2
  clear h2
  go_enter Tryz.func199,Tryz.ntmps199
  go_wp2
  go_ret
  exact⟨rfl,BB.out⟩
 rw[if_neg h2]
 have g2:(x.p==1)=false:=by simpa using h2
 by_cases h3:x.p=2
 ·rw[if_pos h3]
  have g3:(x.p==2)=true:=by simpa using h3
  clear h3
  go_enter Tryz.func199,Tryz.ntmps199
  go_wp2
  go_ret
  exact⟨rfl,BB.out⟩
 rw[if_neg h3]
 have g3:(x.p==2)=false:=by simpa using h3
 by_cases h4:x.p=3
 ·rw[if_pos h4]
  have g4:(x.p==3)=true:=by simpa using h4
  clear h4
  go_enter Tryz.func199,Tryz.ntmps199
  go_wp2
  go_ret
  exact⟨rfl,BB.out⟩
 rw[if_neg h4]
 have g4:(x.p==3)=false:=by simpa using h4
 clear h0 h1 h2 h3 h4
 go_enter Tryz.func199,Tryz.ntmps199
 go_wp2
 go_ret
 exact⟨rfl,BB.out⟩
theorem mr (x y:Pm.Pg)(w:World):
  Calls Tryz.prog 14 #[vp x,vp y] w fun E w'=>E=.returned (.bool (same x y))∧Below w.heap.size w w':=by
 unfold vp
 obtain⟨w1,hw1,aT,aj,hB⟩:=ak w #[.int .i64 x.e,.int .u8 x.r,.int .i64 x.a,.int .u8 x.p,.int .i64 x.f,.int .i64 x.b] 46
 obtain⟨w2,hw2,dz,au,hC⟩:=ak w1 #[.int .i64 y.e,.int .u8 y.r,.int .i64 y.a,.int .u8 y.p,.int .i64 y.f,.int .i64 y.b] 46
 have hB2:=(au.block _ (ax hB)).trans hB
 rw[aT]at hC
 obtain⟨c0,c1,c2,c3,c4,c5⟩:=aN hB2
 obtain⟨d0,d1,d2,d3,d4,d5⟩:=aN hC
 have aF:=aj.trans (au.mono (by omega))
 obtain⟨q,hq⟩:∃q,same x y=q:=⟨_,rfl⟩
 rw[hq]
 unfold same at hq
 clear hB hB2 hC aj au
 go_enter Tryz.func14,Tryz.ntmps14
 cases k0:(x.e==y.e)
 ·simp[k0]at hq
  subst hq
  go_wp2
  go_ret
  exact⟨rfl,aF⟩
 rw[k0]at hq
 cases k1:(x.r==y.r)
 ·simp[k1]at hq
  subst hq
  go_wp2
  go_ret
  exact⟨rfl,aF⟩
 rw[k1]at hq
 cases k2:(x.a==y.a)
 ·simp[k2]at hq
  subst hq
  go_wp2
  go_ret
  exact⟨rfl,aF⟩
 rw[k2]at hq
 cases k3:(x.p==y.p)
 ·simp[k3]at hq
  subst hq
  go_wp2
  go_ret
  exact⟨rfl,aF⟩
 rw[k3]at hq
 cases k4:(x.f==y.f)
 ·simp[k4]at hq
  subst hq
  go_wp2
  go_ret
  exact⟨rfl,aF⟩
 rw[k4]at hq
 cases k5:(x.b==y.b)
 ·simp[k5]at hq
  subst hq
  go_wp2
  go_ret
  exact⟨rfl,aF⟩
 rw[k5]at hq
 simp at hq
 subst hq
 go_wp2
 go_ret
 exact⟨rfl,aF⟩
end Go.Proofs.YtmngcecomcadkaaGreatDoor

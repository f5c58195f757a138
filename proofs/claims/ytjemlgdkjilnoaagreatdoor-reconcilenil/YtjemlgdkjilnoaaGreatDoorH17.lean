/- Texts of one layer, one behind the other. -/
import Derived.Test.YtjemlgdkjilnoaaGreatDoorH14
import Derived.Test.YtjemlgdkjilnoaaGreatDoorH15
import Derived.Test.YtjemlgdkjilnoaaGreatDoorH7
import Derived.Test.YtjemlgdkjilnoaaGreatDoorH6
set_option maxRecDepth 100000
set_option maxHeartbeats 8000000
namespace Go.Proofs.YtjemlgdkjilnoaaGreatDoor
open Go.RowKit
set_option linter.unusedVariables false
theorem Tryz.awK (wx:World):(zeroValue 65).run Tryz.prog wx=.ok (.agg #[.int .i64 0,.int .i64 0,.slice none 0 0]) wx:=by kernel_rfl
theorem Tryz.aqF:Tryz.prog.underlying 90=some (.slice (Tryz.prog.elem 90)):=by kernel_rfl
theorem Tryz.aqs (wx:World):(sizeOf (Tryz.prog.elem 90)).run Tryz.prog wx=.ok 1 wx:=by kernel_rfl
theorem apG (w:World)(base:Nat)(v:Value)(rs:List Cw)(k:Nat)(hrow:bD 65 base w v rs)(hk:k≤rs.length)(hlen:rs.length≤1048576):
  Calls Tryz.prog 241 #[v,.int .i64 k,.int .i64 rs.length] w fun E w'=>∃v',E=.returned v'∧bD 65 base w' v' (rs.take k)∧Out (fun g=>v.ownBlock=some g) w w'∧v'.ownBlock=v.ownBlock:=by
 by_cases h0:k=rs.length
 ·obtain⟨ao,cap,hv,hcap,hcm⟩:=hrow.row.shape
  have R:=hide (show bD 65 base w v (rs.take k)by rw[h0,List.take_length];exact hrow)
  subst hv
  rw[h0]at R⊢
  clear hrow h0 hk
  go_enter Tryz.func241,Tryz.ntmps241
  go_wp2
  all_goals (go_ret;exact⟨_,rfl,R.out,Out.refl _ _,rfl⟩)
 ·obtain⟨L,hL⟩:∃L,L=rs.length:=⟨_,rfl⟩
  have hkL:k<L:=by omega
  obtain⟨g,cap,hv,hcap,hcm,hcell,aiu⟩:∃g cap,v=.slice (some ⟨g,0,none⟩) L cap∧L≤cap∧cap≤maxLen∧(∀j,j<cap*3→(w.cell? ⟨g,j,none⟩).isSome=true)∧∀j,w.frozen? ⟨g,j,none⟩=false:=by
   rcases hrow.2 with⟨_,h⟩|⟨g,cap,cur,hv,_,hg,hc,hm',hs,_⟩
   ·omega
   ·refine⟨g,cap,by rw[hL];exact hv,by rw[hL];exact hc,hm',fun j hj=>?_,fun j=>aC hg j⟩
    rw[ai hg j (Array.getElem?_eq_getElem (by omega:j<cur.size))]
    rfl
  have ad4:=hrow
  unfold bD at ad4
  rw[hv,←hL]at ad4
  have aZ:w.ownsRow base 65 3 (.slice (some ⟨g,0,none⟩) k cap) k (ccells (rs.take k)):=by
   rw[rJ]
   exact ab0 ad4 k (by omega)
  obtain⟨i,hi,hz,hsize,hby⟩:=info_parts Tryz.nO
  obtain⟨ad,cx,hs3⟩:∃ad c,∀wx,(Instr.slice 26 v (some (.int .i64 L)) none none).run Tryz.prog wx=.ok (.slice (some ad) 0 c) wx:=by
   by_cases hc:cap=L
   ·refine⟨⟨g,0,none⟩,0,fun wx=>?_⟩
    rw[hv,run_slice_l wx 26 (some ⟨g,0,none⟩) L cap Tryz.nM .i64 _ (by omega) (by omega),Tryz.nN]
    simp[Result.andThen,sliced,hc]
   ·refine⟨⟨g,L*3,none⟩,cap-L,fun wx=>?_⟩
    rw[hv,run_slice_l wx 26 (some ⟨g,0,none⟩) L cap Tryz.nM .i64 _ (by omega) (by omega),Tryz.nN]
    simp[Result.andThen,sliced,hc,gB]
  have hrun:∃w1,(∀ty,(Builtin.append_ #[26,26] ty #[.slice (some ⟨g,0,none⟩) k cap,.slice (some ad) 0 cx]).run Tryz.prog w.drew=.ok (.slice (some ⟨g,0,none⟩) k cap) w1)∧w1.ownsRow base 65 3 (.slice (some ⟨g,0,none⟩) k cap) k (ccells (rs.take k))∧w.drew.grownBy w1 (some g):=by
   have key:=fun ty=>run_append_fits (P:=Tryz.prog) w.drew base 26 ty 65 i 3 Tryz.underlying26 hi hsize g k cap (ccells (rs.take k)) aZ ad 0 cx [] (by simp) (by simp) (by simp) (by omega)
   obtain⟨w1,h1,h2,h3⟩:=key 0
   exact⟨w1,fun ty=>h1,by simpa using h2,h3⟩
  obtain⟨w1,hrun,aT,sN⟩:=hrun
  obtain⟨anr,hg1,hs1⟩:∃cur,w1.heap[g]? =some (.cells cur 65 (0,0))∧cur.size=cap*3:=by
   rcases aT.2 with⟨h,_⟩|⟨g',cap',cur,h,_,hg,_,_,hs,_⟩
   ·simp at h
   ·simp only[Value.slice.injEq,Option.some.injEq,Addr.mk.injEq,and_true,true_and]at h
    obtain⟨rfl,rfl⟩:=h
    exact⟨cur,hg,hs⟩
  obtain⟨m,hm⟩:∃m,m=L-k:=⟨_,rfl⟩
  have hzl:(Builtin.zeroCells (Value.agg #[.int .i64 0,.int .i64 0,.slice none 0 0]).cells m).toList.length=m*3:=by rw[vQ];rfl
  obtain⟨w2,hw2⟩:∃w2,w2=w1.setCells g (k*3) (Builtin.zeroCells (Value.agg #[.int .i64 0,.int .i64 0,.slice none 0 0]).cells m).toList:=⟨_,rfl⟩
  have hcl:∀ty,(Builtin.clear_ #[26] ty #[.slice (some ⟨g,k*3,none⟩) m (cap-k)]).run Tryz.prog w1=.ok (.tuple #[]) w2:=fun ty=>by
   rw[hw2]
   exact tJ w1 _ _ ty _ Tryz.underlying26 Tryz.awK (vT m (by decide)) g (k*3) (cap-k) (by omega) (fun j hj=>by rw[hzl]at hj;rw[ai hg1 _ (Array.getElem?_eq_getElem (by omega:k*3+j<anr.size))];rfl) (fun j _=>aC hg1 _)
  have htl:(rs.take k).length=k:=by rw[List.length_take];omega
  have R:Hid (bD 65 base w2 (.slice (some ⟨g,0,none⟩) k cap) (rs.take k)):=hide (by
   unfold bD
   rw[htl,hw2]
   exact wR aT _ (Nat.le_refl _) _)
  have O:Hid (Out (fun b=>(Value.slice (some ⟨g,0,none⟩) L cap).ownBlock=some b) w w2):=hide (by
   rw[hw2]
   exact Out.aV (aH (aH (jb w 1 _) sN) (nA g _ (k*3) w1)) fun b hb=>hb)
  obtain⟨x1,hsA⟩:∃x,∀wx,(Instr.slice 26 v (some (.int .i64 k)) (some (.int .i64 L)) (some (.int .i64 L))).run Tryz.prog wx=.ok x wx:=by
   refine⟨sliced (some ⟨g,0,none⟩) k L L 3,fun wx=>?_⟩
   rw[hv,run_slice_lhm wx 26 (some ⟨g,0,none⟩) L cap Tryz.nM .i64 .i64 .i64 _ _ _ (by omega) (by omega) (by omega) (by omega),Tryz.nN]
   simp[Result.andThen]
  have hs2:∀wx,(Instr.slice 26 v none (some (.int .i64 k)) none).run Tryz.prog wx=.ok (.slice (some ⟨g,0,none⟩) k cap) wx:=fun wx=>by
   rw[hv,run_slice_h wx 26 (some ⟨g,0,none⟩) L cap Tryz.nM .i64 _ (by omega) (by omega),Tryz.nN]
   simp[Result.andThen,sliced,Addr.add]
  have hlr:∀ty wx,(Builtin.len_ #[26] ty #[v]).run Tryz.prog wx=.ok (.int .i64 L) wx:=fun ty wx=>by
   rw[hv]
   simp[Builtin.len_,run_underlying Tryz.underlying26,goInt]
  have hob:v.ownBlock=some g:=by rw[hv];rfl
  rw[←hv]at O
  rw[←hL]
  have hmc:¬cap=k:=by omega
  have hmL:(k:Int)≤L:=by omega
  have hLc:(L:Int)≤cap:=by omega
  rw[hm]at hcl
  have hne:((k:Int)==(L:Int))=false:=by simp;omega
  have HB:=hide hob
  have HR:=hide hrun
  clear hrun hw2 hzl hg1 hs1 aZ aT sN ad4 hcell aiu hrow hi hz hsize hby hL hm hv h0 hk hlen hcap hcm hob htl hkL
  go_enter Tryz.func241,Tryz.ntmps241
  go_wp2
  go_region_law (refine eQ rfl (.tmp 22) (.tmp 25) 26 rfl (.slice (some ⟨g,0,none⟩) k cap) (.slice (some ad) 0 cx) (by first|rfl|(simp[Act.eval];done)) (by first|rfl|(simp[Act.eval];done)) (R:=fun v' w'=>v'=.slice (some ⟨g,0,none⟩) k cap∧w'=w1) (fun ty=>⟨_,_,HR.out ty,rfl,rfl⟩) ?_;rintro _ _ ⟨rfl,rfl⟩)
  all_goals (go_wp2;go_ret;exact⟨_,rfl,R.out,O.out,HB.out.symm⟩)
theorem Lw.cut {base:Nat}{w:World}{l:List Cm.Cv}{vc ve:Value}{rs:List Cw}(h:Lw base w l vc ve rs)(k:Nat)(hk:k≤l.length){b o:Nat}{t:TypeId}{cs:Array Value}(hB:w.heap[b]? =some (.cells cs t (0,0)))(h1:t≠65)(h2:t≠3)(h3:t≠92)
  {w':World} {v':Value} (hr:bD 65 base w' v' (rs.take k)) (ho:Out (fun g=>vc.ownBlock=some g) w w') (hb:v'.ownBlock=vc.ownBlock):
  w'.heap[b]? =some (.cells cs t (0,0))∧∃vs,(∀wx,(Instr.slice 90 ve none (some (.int .i64 k)) none).run Tryz.prog wx=.ok vs wx)∧
   (∀U,U.heap[b]? =some (.cells ((cs.setIfInBounds o v').setIfInBounds (o+1) vs) t (0,0))→Out (fun g=>g=b) w' U→Lw base U (l.take k) v' vs (rs.take k)∧(∀g,LB v' vs (rs.take k) g→LB vc ve rs g)∧Out (fun g=>g=b∨LB vc ve rs g) w U):=by
 have hne:=h.r.ne hB h1 h2 h3
 have hB':w'.heap[b]? =some (.cells cs t (0,0)):=(ho.block b (ax hB) fun e=>hne (.inl e)).trans hB
 have en':Own .i64 3 base w' ve (ends l):=h.r.en.agree fun g hg=>ho.block g (h.r.en.block g hg).2 fun e=>by
  obtain⟨c1,e1⟩:=h.r.en.type hg
  obtain⟨c2,e2⟩:=h.r.row.type e
  rw[e1]at e2
  simp only[Option.some.injEq,Obj.cells.injEq]at e2
  exact absurd e2.2.1 (by decide)
 obtain⟨vs,hvs,own,hvb⟩:=en'.jG Tryz.aqF Tryz.aqs k (by rw[ng];exact hk)
 refine⟨hB',vs,hvs,fun U hU oU=>⟨⟨⟨?_,?_,?_⟩,?_,Cm.jr h.good k⟩,?_,?_⟩⟩
 ·refine dm hr fun g hg=>oU.block g (World.ownsRow.lt hr g hg).2 fun e=>hne (.inl ?_)
  rw[←e,←hb]
  exact hg
 ·intro c hc
  have hc':=h.r.kN c (List.mem_of_mem_take hc)
  have:=ho.trans oU (G:=fun g=>g=b) (F:=fun g=>vc.ownBlock=some g)
  have s1:bz 92 base w' c.v c.l:=dm hc' fun g hg=>ho.block g (bz.block hc' g hg).2 fun e=>by
   obtain⟨c1,e1⟩:=hc'.type hg
   obtain⟨c2,e2⟩:=h.r.row.type e
   rw[e1]at e2
   simp only[Option.some.injEq,Obj.cells.injEq]at e2
   exact absurd e2.2.1 (by decide)
  exact dm s1 fun g hg=>oU.block g (bz.block s1 g hg).2 fun e=>hne (.inr (.inr ⟨c,List.mem_of_mem_take hc,e▸hg⟩))
 ·rw[akY l k hk]
  exact own.agree fun g hg=>oU.block g (own.block g hg).2 fun e=>hne (.inr (.inl (by rw[←e];exact hvb g hg)))
 ·rw[afu,h.is]
 ·rintro g (e|e|⟨c,hc,e⟩)
  ·exact .inl (by rw[←hb];exact e)
  ·exact .inr (.inl (hvb g e))
  ·exact .inr (.inr ⟨c,List.mem_of_mem_take hc,e⟩)
 ·refine(ho.mono (G:=fun g=>g=b∨LB vc ve rs g) fun g hg=>.inl (.inr (.inl hg))).trans oU fun g hg=>.inl (.inl hg)
theorem avo (x y:Int)(g:Nat)(w:World)(h0:w.cell? ⟨g,0,none⟩=some (.int .i64 x))(h1:w.cell? ⟨g,1,none⟩=some (.int .i64 y)):
  Calls Tryz.prog 172 #[.slice (some ⟨g,0,none⟩) 2 2] w fun E w'=>E=.returned (.int .i64 (if x=0 then y else x))∧w'=w:=by
 obtain⟨z,hz⟩:∃z,(if x=0 then y else x)=z:=⟨_,rfl⟩
 rw[hz]
 have HZ:=hide hz
 clear hz
 go_enter Tryz.func172,Tryz.ntmps172
 go_wp2
 go_loopw [8] (fun iv wr=>∃k:Nat,k≤2∧iv=.int .i64 k∧Hid ((1≤k→x=0)∧(2≤k→y=0))∧wr=w) (fun iv _=>2-(intOf iv).toNat)
 case atStart=>exact⟨0,by omega,rfl,hide ⟨fun h=>by omega,fun h=>by omega⟩,rfl⟩
 case round=>
  obtain⟨k,hk,rfl,HT,rfl⟩:=hrel
  rcases(by omega:k=0∨k=1∨k=2)with rfl|rfl|rfl
  ·by_cases hx:x=0
   ·subst hx
    go_wp2
    go_roundw
    case rel=>exact⟨1,by omega,rfl,hide ⟨fun _=>by trivial,fun h=>by omega⟩,trivial⟩
    case measure=>simp[intOf]
   ·have hx':(x !=0)=true:=by simpa using hx
    obtain rfl:x=z:=by rw[←HZ.out,if_neg hx]
    go_wp2
    go_ret
    exact⟨rfl,rfl⟩
  ·obtain rfl:=HT.out.1 (by omega)
   obtain rfl:y=z:=by rw[←HZ.out,if_pos rfl]
   by_cases hy:y=0
   ·subst hy
    go_wp2
    go_roundw
    case rel=>exact⟨2,by omega,rfl,hide ⟨fun _=>by trivial,fun _=>by trivial⟩,by trivial⟩
    case measure=>simp[intOf]
   ·have hy':(y !=0)=true:=by simpa using hy
    go_wp2
    go_ret
    exact⟨rfl,rfl⟩
  ·obtain rfl:=HT.out.1 (by omega)
   obtain rfl:=HT.out.2 (by omega)
   obtain rfl:0=z:=by rw[←HZ.out,if_pos rfl]
   go_wp2
   go_ret
   exact⟨rfl,rfl⟩
def vH (a:List Sm.S) (ae:Int) (b:List Sm.S) (be:Int):Int:=if Sm.chk a ae=0 then Sm.chk b be else Sm.chk a ae
theorem afz {a b:List Sm.S}{ae be:Int}(h:vH a ae b be=0):Sm.Ok a ae∧Sm.Ok b be:=by
 unfold vH at h
 split at h
 ·rename_i h1
  exact⟨Sm.aQ.1 h1,Sm.aQ.1 h⟩
 ·rename_i h1
  exact absurd h h1
def Fr (a:List Sm.S) (ae:Int) (b:List Sm.S) (be n:Int):Prop:=(vH a ae b be=0∧Sm.Fk a ae b be n)∨(vH a ae b be≠0∧n=0)
theorem oG {a b:List Sm.S}{ae be n m:Int}(h:Fr a ae b be n)(k:Fr a ae b be m):n=m:=by
 rcases h with⟨h1,h2⟩|⟨h1,h2⟩<;>rcases k with⟨k1,k2⟩|⟨k1,k2⟩
 ·exact Sm.auR h2 k2
 ·exact absurd h1 k1
 ·exact absurd k1 h1
 ·rw[h2,k2]
theorem ajT (va vb:Value)(a b:List Sm.S)(ae be:Int)(w:World)(ha:jJ w va a)(hb:jJ w vb b)(hla:a.length≤140737488355328)(hlb:b.length≤140737488355328):
  Calls Tryz.prog 137 #[va,.int .i64 ae,vb,.int .i64 be] w fun E w'=>∃n,E=.returned (.tuple #[.int .i64 n,.int .i64 (vH a ae b be)])∧Fr a ae b be n∧Below w.heap.size w w':=by
 have X:=hide (uV va a ae w ha hla)
 have Y:Hid (∀w1,Below w.heap.size w w1→_):=hide fun w1 b1=>uV vb b be w1 (hb.below b1) hlb
 have Z:Hid (∀w1,Below w.heap.size w w1→vH a ae b be=0→_):=hide fun w1 b1 h0=>aox va vb a b ae be w1 (ha.below b1) (hb.below b1) hla hlb (afz h0).1 (afz h0).2
 obtain⟨x,hx⟩:∃x,Sm.chk a ae=x:=⟨_,rfl⟩
 obtain⟨y,hy⟩:∃y,Sm.chk b be=y:=⟨_,rfl⟩
 have he:vH a ae b be=if x=0 then y else x:=by unfold vH;rw[hx,hy]
 rw[hx]at X
 rw[hy]at Y
 clear ha hb hx hy hla hlb
 have FR:Hid (∀n,(vH a ae b be=0→Sm.Fk a ae b be n)→(vH a ae b be≠0→n=0)→Fr a ae b be n):=hide fun n h1 h2=>by
  by_cases h:vH a ae b be=0
  ·exact .inl ⟨h,h1 h⟩
  ·exact .inr ⟨h,h2 h⟩
 rw[he]at Z FR⊢
 obtain⟨z,hz⟩:∃z,(if x=0 then y else x)=z:=⟨_,rfl⟩
 rw[hz]at Z FR⊢
 have HZ:=hide hz
 clear hz he
 go_enter Tryz.func137,Tryz.ntmps137
 go_wp2_with fail
 refine X.out.mono ?_
 rintro E w1 ⟨rfl,aj⟩
 go_wp2_with fail
 refine(Y.out _ aj).mono ?_
 rintro E w2 ⟨rfl,au⟩
 have s1:=aj.size
 have s2:=au.size
 obtain⟨w3,hw3,bP,aF,hB⟩:=ak w2 #[.int .i64 x,.int .i64 y] 28
 have c0:=ai hB 0 rfl
 have c1:=ai hB 1 rfl
 have gT:Below w.heap.size w w3:=(aj.trans (au.mono s1)).trans (aF.mono (by omega))
 clear hB aj au aF s1 s2
 go_wp2_with fail
 refine(avo x y _ w3 c0 c1).mono ?_
 rintro E w4 ⟨rfl,rfl⟩
 rw[HZ.out]
 clear HZ c0 c1
 by_cases h0:z=0
 ·subst h0
  go_wp2_with fail
  refine(Z.out _ gT (by trivial)).mono ?_
  rintro E w5 ⟨n,rfl,jq,m,rfl⟩
  have HF:=hide jq
  clear jq
  go_wp2
  go_ret2
  exact⟨_,rfl,FR.out _ (fun _=>HF.out) (fun h=>absurd rfl h),below_drewN gT _⟩
 ·have hz:(z !=0)=true:=by simpa using h0
  have F0:=hide (FR.out 0 (fun h=>absurd h h0) (fun _=>rfl))
  clear h0 FR
  go_wp2
  go_ret2
  exact⟨_,rfl,F0.out,gT⟩
theorem aij (base:Nat)(v:Value)(l:List Sm.S)(e n:Int)(ao:Option Addr)(no co:Nat)(w:World)(h:mK base w v l)(hl:(l.length+1)*16≤140737488355328)(hb:base≤w.heap.size):
  Calls Tryz.prog 99 #[v,bT e n (.slice ao no co)] w fun E w'=>∃v',E=.returned v'∧mK base w' v' (Sm.grw l e n)∧Below base w w':=by
 unfold bT
 obtain⟨w1,hw1,aW,aj,hB⟩:=ak w #[.int .i64 e,.int .i64 n,.slice ao no co] 65
 have aZ:=pO h aj
 have c0:=ai hB 0 rfl
 have c1:=ai hB 1 rfl
 have X:Hid (∀m,_):=hide fun m=>alO v l (w1.drewN m) (aja aZ.row m) (by omega)
 have HL:Hid ((l.length+[((e,n):Sm.S)].length)*16≤140737488355328):=hide hl
 have HB:=hide hB
 clear hl h hB
 by_cases hq:e=Sm.ay l
 ·have hg:Sm.grw l e n=l:=by unfold Sm.grw;rw[if_pos hq]
  rw[hg]
  have hq':(e==Sm.ay l)=true:=by simpa using hq
  generalize Sm.ay l=u at*
  clear hq hg HL
  go_enter Tryz.func99,Tryz.ntmps99
  go_wp2
  go_quiet ((go_at_call 147;refine Calls.quiet_of ((X.out _).mono (by rintro E w1 ⟨rfl,rfl⟩;exact⟨rfl,0,rfl⟩))))
  go_wp2
  go_ret
  exact⟨_,rfl,aZ.agree fun _ _=>rfl,below_drewN (aj.mono hb) _⟩
 ·have hg:Sm.grw l e n=l++[(e,n)]:=by unfold Sm.grw;rw[if_neg hq]
  rw[hg]
  have hq':(e==Sm.ay l)=false:=by simpa using hq
  generalize Sm.ay l=u at*
  clear hq hg
  go_enter Tryz.func99,Tryz.ntmps99
  go_wp2
  go_quiet ((go_at_call 147;refine Calls.quiet_of ((X.out _).mono (by rintro E w1 ⟨rfl,rfl⟩;exact⟨rfl,0,rfl⟩))))
  have aqc:mK base (w1.drewN nq) v l:=aZ.agree fun _ _=>rfl
  have szq:(w1.drewN nq).heap.size=w1.heap.size:=rfl
  have d0:(w1.drewN nq).cell? ⟨w.heap.size,0,none⟩=some (.int .i64 e):=c0
  have d1:(w1.drewN nq).cell? ⟨w.heap.size,1,none⟩=some (.int .i64 n):=c1
  have aou:Below base w (w1.drewN nq):=below_drewN (aj.mono hb) nq
  generalize w1.drewN nq=wq at*
  obtain⟨w2,hw2,di,au,aT⟩:=afJ wq #[.int .i64 e,.int .i64 n] 1 [(e,n)] rfl rfl (by simp[maxLen])
  have bI:=pO aqc au
  rw[szq,aW]at aT
  clear aZ aqc c0 c1 X HB
  go_wp2_with (at_builtin;refine yP rfl (.tmp 11) (.tmp 17) rfl base _ l rfl bI _ [(e,n)] rfl aT.row HL.out (by omega) ?_)
  intro v2 w3 bf aF _
  go_wp2
  go_ret
  exact⟨_,rfl,bf,(aou.trans (au.mono (by omega))).trans aF⟩
end Go.Proofs.YtjemlgdkjilnoaaGreatDoor

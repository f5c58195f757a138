/- Texts. -/
import Derived.Test.YtlmkaljjocflmaaGreatDoorBH9
import Derived.Test.YtlmkaljjocflmaaGreatDoorBH2
import Derived.Test.YtlmkaljjocflmaaGreatDoorBH23
import Derived.Test.YtlmkaljjocflmaaGreatDoorBH4
import Derived.Test.YtlmkaljjocflmaaGreatDoorBH7
import Derived.Test.YtlmkaljjocflmaaGreatDoorBH6
import Derived.Test.YtlmkaljjocflmaaGreatDoorBH10
import Derived.Test.YtlmkaljjocflmaaGreatDoorBH21
import Derived.Test.YtlmkaljjocflmaaGreatDoorBH15
import Derived.Test.YtlmkaljjocflmaaGreatDoorBH20
import Derived.Test.YtlmkaljjocflmaaGreatDoorBM3
import Derived.Test.YtlmkaljjocflmaaGreatDoorBM4
import Derived.Test.YtlmkaljjocflmaaGreatDoorBH11
set_option maxRecDepth 100000
set_option maxHeartbeats 8000000
set_option linter.unusedVariables false
open Go.Proofs.Tryz
namespace Go.Proofs.YtlmkaljjocflmaaGreatDoor
open Go.RowKit
structure Fst (w wr:World) (g m cap:Nat) (rest:List Cw) (k:Nat) (rk:List Cw):Prop where
 row:bD 35 w.heap.size wr (.slice (some ⟨g,0,none⟩) m cap) rk
 len:rk.length=m
 left:rk.drop k=rest.drop k
 iH:gu w.heap.size wr (rk.take k)
 is:aD rk=aD rest
 ap:qE (rk.take k)
 aI:Below w.heap.size w wr
theorem Fst.next {w wr w2 w3:World}{g m cap:Nat}{rest rk:List Cw}{k:Nat}(h:Fst w wr g m cap rest k rk){c:Cw}(hc:rest[k]? =some c)(hk:k<m){v':Value}(ho:aT 71 wr.heap.size w2 v' c.l)(hb:Below wr.heap.size wr w2)
  (hr:bD 35 w.heap.size w3 (.slice (some ⟨g,0,none⟩) m cap) (rk.set k ⟨c.e,c.n,v',c.l⟩)) (hg:w2.grownBy w3 (some g)):Fst w w3 g m cap rest (k+1) (rk.set k ⟨c.e,c.n,v',c.l⟩):=by
 have hlen:=h.len
 have xV:rk[k]? =some c:=by
  have e1:(rk.drop k)[0]? =(rest.drop k)[0]? :=by rw[h.left]
  rw[List.getElem?_drop,List.getElem?_drop]at e1
  simpa using e1.trans (by simpa using hc)
 have htk:(rk.set k ⟨c.e,c.n,v',c.l⟩).take (k+1)=rk.take k++[⟨c.e,c.n,v',c.l⟩]:=by
  rw[List.take_succ_eq_append_getElem (by rw[List.length_set];omega),List.take_set_of_le (Nat.le_refl _)]
  simp
 have hrow2:bD 35 w.heap.size w2 (.slice (some ⟨g,0,none⟩) m cap) rk:=h.row.below hb
 have kt:bH 35 w2 w3:=bH.sN hrow2 hg
 refine⟨hr,by rw[List.length_set];exact hlen,?_,?_,?_,?_,?_⟩
 ·rw[List.drop_set_of_lt (by omega),←List.drop_drop,h.left,List.drop_drop]
 ·rw[htk]
  exact((h.iH.below hb).lu kt).snoc (c:=⟨c.e,c.n,v',c.l⟩) ((ho.lu kt (by decide)).bn h.aI.size)
 ·rw[←h.is]
  unfold aD
  rw[List.map_set]
  apply List.ext_getElem?
  intro i
  rw[List.getElem?_set]
  by_cases hik:k=i
  ·subst hik
   rw[if_pos rfl,if_pos (by rw[List.length_map];omega),List.getElem?_map,xV]
   rfl
  ·rw[if_neg hik]
 ·rw[htk]
  refine aal (N:=wr.heap.size) h.ap (fun d hd b hb=>((h.iH d hd).block b hb).2) fun b hb=>(aT.block ho b hb).1
 ·have b2:=h.aI.trans (hb.mono h.aI.size)
  refine b2.grown hg b2.size fun i hi=>?_
  have:=(World.ownsRow.lt h.row g rfl).1
  simp only[Option.some.injEq]at hi
  omega
end Go.Proofs.YtlmkaljjocflmaaGreatDoor
namespace Go.Proofs.YtlmkaljjocflmaaGreatDoor
open Go.RowKit
theorem ahv (cs:Array Value)(i j:Nat)(v:Value)(h:i≠j):(cs.setIfInBounds i v)[j]? =cs[j]? :=by
 rw[Array.getElem?_setIfInBounds,if_neg h]
theorem ak2 (base b o:Nat)(t:TypeId)(cs:Array Value)(w:World)(l:List Cm.Cv)(vc ve:Value)(rs:List Cw)(c:Cw)(size:Nat)
  (hB:w.heap[b]? =some (.cells cs t (0,0))) (ho:cs[o]? =some vc) (ho1:cs[o+1]? =some ve) (h1:t≠35) (h2:t≠3) (h3:t≠71) (h:Lw base w l vc ve rs) (hbase:base≤w.heap.size)
  (hc:aT 71 base w c.v c.l) (hg:Cm.Good 0 0 (l++[c.c])) (hs:size=(Wl.fr c.c).length):
  Calls prog 245 #[.pointer (some ⟨b,o,none⟩),cK c.e c.n c.v,.int .i64 size] w fun E w'=>E=.returned (.tuple #[])∧
   ∃vc' ve',w'.heap[b]? =some (.cells ((cs.setIfInBounds (o+1) ve').setIfInBounds o vc') t (0,0))∧Lw base w' (l++[c.c]) vc' ve' (rs++[c])∧Out (fun g=>g=b∨LB vc ve rs g) w w'∧∀g,LB vc' ve' (rs++[c]) g→LB vc ve rs g∨w.heap.size≤g∨c.v.ownBlock=some g:=by
 have hll:=fM h.good
 have hlen:=h.len
 obtain⟨ao,cap,hv,_,_⟩:=hc.is.shape
 obtain⟨w1,hw1,aV,aj,hB0⟩:=au w #[.int .i64 c.e,.int .i64 c.n,c.v] 35
 have hbw:b<w.heap.size:=ay hB
 have hB1:w1.heap[b]? =some (.cells cs t (0,0)):=(aj.block b hbw).trans hB
 have L1:=h.below aj
 have hsum:(Wl.dE (l++[c.c])).length=(Wl.dE l).length+size:=by rw[Wl.qd,Wl.zh,List.length_append,hs]
 have hle:=awM hg
 have hx:(Lit.int .i64 ((Wl.dE l).length+size:Int)).wf=true:=by
  have h5:(Wl.dE l).length+size≤454033408:=by omega
  exact wf_i64 (by omega) (by omega)
 have HE:Hid (Calls prog 139 #[.pointer (some ⟨b,o,none⟩)] w1.drew fun E w'=>∃v,E=.returned v∧(v=.int .i64 rs.length∧w1.drew=w')):=hide ((lD b o w1.drew vc rs (ai hB1 o ho) (L1.r.row.row.below ((Below.refl _ _).drew))).mono fun E w' h=>⟨_,h.1,rfl,h.2⟩)
 have HP:Hid (Calls prog 294 #[.pointer (some ⟨b,o,none⟩),.int .i64 rs.length] w1.drew fun E w'=>∃v,E=.returned v∧(v=.int .i64 (Wl.dE l).length∧w1.drew=w')):=hide (by
  have:=abG b o w1.drew ve l rs.length (by omega) hll (ai hB1 (o+1) ho1) (L1.r.en.is.drewN 1)
  rw[List.take_of_length_le (by omega)]at this
  exact this.mono fun E w' h=>⟨_,h.1,rfl,h.2⟩)
 obtain⟨V1,hV1,cV1,X1⟩:=alz (o:=o) hB1 ho1 h1 h2 h3 L1.r (by rw[uI];exact hll) (by omega) ((Wl.dE l).length+size:Int) hx
 have T2:Hid (∀v' U,U.heap[b]? =some (.cells (cs.setIfInBounds (o+1) v') t (0,0))→Lr base U vc v' rs (ends l++[((Wl.dE l).length+size:Int)])→Out (fun g=>g=b∨ve.ownBlock=some g) w1 U→(v'.ownBlock=ve.ownBlock∨∃g,v'.ownBlock=some g∧w1.heap.size≤g)→
   ∃V,U.drew.alloc (.cells #[.int .i64 c.e,.int .i64 c.n,c.v] 35)=V∧V.cell? ⟨b,o,none⟩=some vc∧U.cell? ⟨b,o,none⟩=some vc∧(U.cell? ⟨w.heap.size,0,none⟩=some (.int .i64 c.e)∧U.cell? ⟨w.heap.size,1,none⟩=some (.int .i64 c.n)∧U.cell? ⟨w.heap.size,2,none⟩=some c.v)∧(V.cell? ⟨w.heap.size,0,none⟩=some (.int .i64 c.e)∧V.cell? ⟨w.heap.size,1,none⟩=some (.int .i64 c.n)∧V.cell? ⟨w.heap.size,2,none⟩=some c.v)∧
   Hid (∀ty,∃v2 w2,(Builtin.append_ #[22,22] ty #[vc,.slice (some ⟨U.heap.size,0,none⟩) 1 1]).run prog V=.ok v2 w2∧((∃U2,w2.setCell ⟨b,o,none⟩ v2=U2∧
    (U2.heap[b]? =some (.cells ((cs.setIfInBounds (o+1) v').setIfInBounds o v2) t (0,0))∧Lw base U2 (l++[c.c]) v2 v' (rs++[c])∧Out (fun g=>g=b∨LB vc ve rs g) w U2∧∀g,LB v2 v' (rs++[c]) g→LB vc ve rs g∨w.heap.size≤g∨c.v.ownBlock=some g))∧w2.cell? ⟨b,o,none⟩=some vc∧w2.frozen? ⟨b,o,none⟩=false∧∃a n c,v2=.slice a n c))):=hide fun v' U hBU LU oU aU=>by
  have hoU:(cs.setIfInBounds (o+1) v')[o]? =some vc:=by rw[ahv _ _ _ _ (by omega)];exact ho
  have hne:¬(w.heap.size=b∨ve.ownBlock=some w.heap.size):=by
   rintro(e|e)
   ·omega
   ·have:=(h.r.en.block _ e).2
    omega
  have aj5:=(oU.block w.heap.size (by omega) hne).trans hB0
  have hcU:aT 71 base U c.v c.l:=by
   refine dH (hc.below aj) fun g hg'=>oU.block g (aT.block (hc.below aj) g hg').2 ?_
   obtain⟨c1,e1⟩:=(hc.below aj).type hg'
   rintro(e|e)
   ·rw[e,hB1]at e1
    simp only[Option.some.injEq,Obj.cells.injEq]at e1
    exact h3 e1.2.1
   ·obtain⟨c2,e2⟩:=L1.r.en.type e
    rw[e1]at e2
    simp only[Option.some.injEq,Obj.cells.injEq]at e2
    exact absurd e2.2.1 (by decide)
  obtain⟨V2,hV2,cV2,X2⟩:=alo (o:=o) hBU hoU h1 h2 h3 LU (by omega) (by have:=oU.size;omega) c hcU
  have bg:Below U.heap.size U V2:=by
   rw[←hV2]
   exact(Below.refl U.heap.size U).drew.trans (show Below U.heap.size U.drew _ from(Below.refl U.drew.heap.size U.drew).alloc (Nat.le_refl _) _)
  have anW:=(bg.block w.heap.size (by have:=oU.size;omega)).trans aj5
  refine⟨V2,hV2,cV2,ai hBU o hoU,⟨ai aj5 0 rfl,ai aj5 1 rfl,ai aj5 2 rfl⟩,⟨ai anW 0 rfl,ai anW 1 rfl,ai anW 2 rfl⟩,hide fun ty=>?_⟩
  obtain⟨v2,w2,hr,⟨U2,hU2,az4,LU2,oU2,aU2⟩,k1,k2,k3⟩:=X2.out ty
  refine⟨v2,w2,hr,⟨U2,hU2,az4,⟨?_,?_,hg⟩,?_,?_⟩,k1,k2,k3⟩
  ·rw[anw,hsum]
   exact LU2
  ·rw[aD,List.map_append,←aD,h.is]
   rfl
  ·have s1:Out (fun g=>g=b∨LB vc ve rs g) w w1:=Out.of_below aj
   have s2:Out (fun g=>g=b∨LB vc ve rs g) w U:=s1.trans oU fun g hg=>.inl (hg.elim .inl fun e=>.inr (.inr (.inl e)))
   exact s2.trans oU2 fun g hg=>.inl (hg.elim .inl fun e=>.inr (.inl e))
  ·have su:=oU.size
   rintro g (e|e|⟨d,hd,e⟩)
   ·rcases aU2 with a|⟨g',a,hg'⟩
    ·exact .inl (.inl (a▸e))
    ·rw[e]at a
     simp only[Option.some.injEq]at a
     exact .inr (.inl (by omega))
   ·rcases aU with a|⟨g',a,hg'⟩
    ·exact .inl (.inr (.inl (a▸e)))
    ·rw[e]at a
     simp only[Option.some.injEq]at a
     exact .inr (.inl (by omega))
   ·rcases List.mem_append.1 hd with hd|hd
    ·exact .inl (.inr (.inr ⟨d,hd,e⟩))
    ·rw[List.mem_singleton.1 hd]at e
     exact .inr (.inr e)
 have X1':Hid (∀ty,∃v' w',(Builtin.append_ #[173,173] ty #[ve,.slice (some ⟨w1.heap.size,0,none⟩) 1 1]).run prog V1=.ok v' w'∧((∃U,w'.setCell ⟨b,o+1,none⟩ v'=U∧(U.heap[b]? =some (.cells (cs.setIfInBounds (o+1) v') t (0,0))∧Lr base U vc v' rs (ends l++[((Wl.dE l).length+size:Int)])∧Out (fun g=>g=b∨ve.ownBlock=some g) w1 U∧(v'.ownBlock=ve.ownBlock∨∃g,v'.ownBlock=some g∧w1.heap.size≤g)))∧w'.cell? ⟨b,o+1,none⟩=some ve∧w'.frozen? ⟨b,o+1,none⟩=false∧∃a n c,v'=.slice a n c)):=X1
 have c1:=ai hB1 (o+1) ho1
 have hwr:IntKind.i64.wrap (((Wl.dE l).length:Int)+size)=((Wl.dE l).length:Int)+size:=aQ _ (by omega) (by omega)
 obtain⟨ea,ec,hve,_,_⟩:=h.r.en.is.shape
 obtain⟨ca,cc,dz,_,_⟩:=h.r.row.row.shape
 unfold cK
 rw[hv]at hw1 T2⊢
 subst hve dz
 generalize (Wl.dE l).length=z at*
 clear hB h hc hB0 hB1 L1 X1 hg hs hsum hle hll hv ho ho1 hx aj hlen
 go_enter func245,ntmps245
 go_wp2_with fail
 go_region_law (first
  |(refine p9 rfl 139 #[.tmp 12] #[249] rfl Tryz.amj #[.pointer (some ⟨b,o,none⟩)] (by first|(simp[Act.eval];done)|(simp[Act.eval,Act.put];done)) HE.out ?_;rintro _ _ ⟨rfl,rfl⟩)
  |(refine p9 rfl 294 #[.tmp 11,.tmp 13] #[249,3] rfl Tryz.alC #[.pointer (some ⟨b,o,none⟩),.int .i64 rs.length] (by first|(simp[Act.eval];done)|(simp[Act.eval,Act.put];done)) HP.out ?_;rintro _ _ ⟨rfl,rfl⟩)
  |(refine dR rfl (.tmp 10) (.tmp 17) 173 rfl (.slice ea (ends l).length ec) (.slice (some ⟨w1.heap.size,0,none⟩) 1 1) (by first|(simp[Act.eval];done)|(simp[Act.eval,Act.put];done)) (by first|(simp[Act.eval];done)|(simp[Act.eval,Act.put];done)) X1'.out ?_;rintro v7 w7 ⟨⟨U,hU,hBU,LU,oU,aU⟩,d7,g7,a7,n7,k7,rfl⟩;obtain⟨V2,hV2,cV2,cU2,⟨p0,p1,p2⟩,⟨r0,r1,r2⟩,X2⟩:=T2.out _ U hBU LU oU aU;clear hBU LU oU aU))
 all_goals
  go_wp2_with fail
  go_region_law (refine dR rfl (.tmp 25) (.tmp 27) 22 rfl (.slice ca rs.length cc) (.slice (some ⟨U.heap.size,0,none⟩) 1 1) (by first|(simp[Act.eval];done)|(simp[Act.eval,Act.put];done)) (by first|(simp[Act.eval];done)|(simp[Act.eval,Act.put];done)) X2.out ?_;rintro v8 w8 ⟨⟨U2,hU2,J⟩,d8,g8,a8,n8,k8,rfl⟩;have J:=hide J)
  all_goals
   go_wp2
   go_end0
   exact⟨rfl,_,_,J.out⟩
structure Rst12 (w wr:World) (bs:List Int) (l:List Cm.Cv) (vc ve:Value) (rs:List Cw):Prop where
 rd:Rdl bs l
 log:Lw (w.heap.size+2) wr l vc ve rs
 ap:qE rs
 bR:wr.heap[w.heap.size]? =some (.cells #[.slice none 0 0,.slice none 0 0] 194 (0,0))
 bL:wr.heap[w.heap.size+1]? =some (.cells #[vc,ve] 194 (0,0))
 aI:Below w.heap.size w wr
 sz:w.heap.size+2≤wr.heap.size
def frd (e n:Int) (l:List Bm.Ov):List Int:=if Cm.chk e n l=0 then Wl.fr ⟨e,n,l⟩else []
theorem aiZ (e n:Int)(v:Value)(l:List Bm.Ov)(w:World)(h:bM w v l)(hf:dZ l)(hl:l.length≤140737488355328):
  Calls prog 242 #[cK e n v] w fun E w'=>∃vb,E=.returned (.tuple #[vb,.int .i64 (Cm.chk e n l)])∧Own .u8 5 w.heap.size w' vb (frd e n l)∧Below w.heap.size w w':=by
 obtain⟨ao,cap,hv,_,_⟩:=h.shape
 obtain⟨w1,hw1,aV,aj,hB⟩:=au w #[.int .i64 e,.int .i64 n,v] 35
 have c0:w1.cell? ⟨w.heap.size,0,none⟩=some (.int .i64 e):=ai hB 0 rfl
 have c1:w1.cell? ⟨w.heap.size,1,none⟩=some (.int .i64 n):=ai hB 1 rfl
 have c2:w1.cell? ⟨w.heap.size,2,none⟩=some v:=ai hB 2 rfl
 have HC:=hide (ae1 e n v l w1 (h.below aj) hf hl)
 unfold cK at HC⊢
 rw[hv]at hw1 c2 HC⊢
 obtain⟨ch,hch⟩:∃c,Cm.chk e n l=c:=⟨_,rfl⟩
 have KC:=hide hch
 rw[hch]at HC⊢
 clear h hf hl hB hv hch
 go_enter func242,ntmps242
 go_wp2_with fail
 refine HC.out.mono ?_
 rintro E w2 ⟨vb,rfl,own,az⟩
 have aO:=aj.trans (az.mono aj.size)
 obtain⟨ab,cb,hvb,_,_⟩:=own.is.shape
 by_cases hc0:ch=0
 ·have hz:(Cm.out e n l).length≤430:=Cm.xq e n l
  have HF:=hide (aaO (.slice none 0 0) vb [] (Cm.out e n l) w2 (Is.nil _ _) own.is (by simp) (by omega))
  have ea:ape (Cm.out e n l)=0:=by unfold ape;rw[if_pos (by omega)]
  have ed:apd [] (Cm.out e n l)=frd e n l:=by
   unfold apd frd
   rw[if_pos (by omega),if_pos (by rw[KC.out];exact hc0),Cm.kX (by rw[KC.out];exact hc0)]
   rfl
  rw[ea,ed]at HF
  subst hvb
  subst hc0
  clear own aj az ea ed hz HC
  go_wp2_with fail
  refine HF.out.mono ?_
  rintro E w3 ⟨vf,rfl,bK,aC⟩
  obtain⟨af,cf,hvf,_,_⟩:=bK.is.shape
  have O3:=hide (bK.bn (base':=w.heap.size) aO.size)
  have B3:=hide (aO.trans (aC.mono aO.size))
  subst hvf
  clear bK aC aO HF
  go_wp2
  go_ret2
  exact⟨_,rfl,O3.out,B3.out⟩
 ·have ed:frd e n l=[]:=by unfold frd;rw[if_neg (by rw[KC.out];exact hc0)]
  have ED:=hide ed
  have hne:(ch !=0)=true:=by simp[hc0]
  subst hvb
  clear own aj az ed HC
  go_wp2
  go_ret2
  exact⟨_,rfl,by rw[ED.out];exact Own.nil _ _ _ _,aO⟩
theorem zJ.put {p q:Nat}{w:World}{l:List Cm.Cv}{bk:Bool}{vc ve:Value}{rs:List Cw}(h:zJ p q w l bk vc ve rs)(b:Bool):zJ p q (w.setCell ⟨p,1,none⟩ (.bool b)) l b vc ve rs∧Out (fun g=>g=p) w (w.setCell ⟨p,1,none⟩ (.bool b)):=by
 have ho:Out (fun g=>g=p) w (w.setCell ⟨p,1,none⟩ (.bool b)):=Out.aM (ax w ⟨p,1,none⟩ (.bool b)) fun g hg=>by simp at hg;exact hg.symm
 refine⟨⟨by rw[aF h.blk];rfl,h.log.agree fun g hg=>ho.block g (h.log.lt g hg) fun e=>?_⟩,ho⟩
 exact h.log.r.ne h.blk (by decide) (by decide) (by decide) (e▸hg)
theorem WW.flag {p q:Nat}{F:Nat→Prop}{w:World}{s:Wl.Ws}(h:WW p q F w s)(b:Bool):iT p q F w (w.setCell ⟨p,1,none⟩ (.bool b)) ⟨s.d,s.l,b⟩:=by
 obtain⟨F1,G1,h1,h2,rfl⟩:=h
 obtain⟨vc,ve,rs,hv,rfl⟩:=h2
 obtain⟨k1,k2⟩:=hv.put b
 have h2:Wk p q (fun g=>g=p∨LB vc ve rs g) w s.l s.bk:=⟨vc,ve,rs,hv,rfl⟩
 refine⟨_,⟨F1,_,h1.out k2 fun g hg e=>yU h2 h1 g (.inl e) hg,⟨vc,ve,rs,k1,rfl⟩,rfl⟩,k2.mono fun g hg=>.inl (.inr (.inl hg)),fun g hg=>.inl hg⟩
theorem wU (p q:Nat)(F:Nat→Prop)(w:World)(s:Wl.Ws)(h:WW p q F w s):
  Calls prog 241 #[.pointer (some ⟨p,0,none⟩)] w fun E w'=>(Wl.ask s=true∧E=.returned (.int .i64 6)∧iT p q F w w' (Wl.brk s))∨(Wl.ask s=false∧E=.returned (.int .i64 0)∧w=w'):=by
 have HF:=hide (h.flag true)
 obtain⟨F1,G1,h1,h2,rfl⟩:=h
 obtain⟨vc,ve,rs,hv,rfl⟩:=h2
 have HM:=hide (oC p q w #[] _ _ _ hv.blk)
 have HO:=hide (xU q F1 w s.d h1)
 have c0:=ai hv.blk 0 rfl
 have c1:=ai hv.blk 1 rfl
 have f1:=aA hv.blk 1
 simp only[List.getElem_toArray,List.getElem_cons_zero,List.getElem_cons_succ]at c0 c1
 unfold Wl.ask
 generalize s.d.on=on at HO⊢
 generalize s.bk=bk at c1⊢
 clear hv h1
 cases bk<;>cases on
 ·go_enter func241,ntmps241
  go_wp2_with fail
  refine HM.out.mono ?_
  rintro E w1 ⟨rfl,rfl⟩
  go_wp2_with fail
  refine HO.out.mono ?_
  rintro E w1 ⟨rfl,rfl⟩
  go_wp2
  go_ret
  exact .inl ⟨rfl,rfl,HF.out⟩
 ·go_enter func241,ntmps241
  go_wp2_with fail
  refine HM.out.mono ?_
  rintro E w1 ⟨rfl,rfl⟩
  go_wp2_with fail
  refine HO.out.mono ?_
  rintro E w1 ⟨rfl,rfl⟩
  go_wp2
  go_ret
  exact .inr ⟨rfl,rfl,rfl⟩
 ·go_enter func241,ntmps241
  go_wp2_with fail
  refine HM.out.mono ?_
  rintro E w1 ⟨rfl,rfl⟩
  go_wp2
  go_ret
  exact .inl ⟨rfl,rfl,HF.out⟩
 ·go_enter func241,ntmps241
  go_wp2_with fail
  refine HM.out.mono ?_
  rintro E w1 ⟨rfl,rfl⟩
  go_wp2
  go_ret
  exact .inl ⟨rfl,rfl,HF.out⟩
theorem acZ (p q:Nat)(F:Nat→Prop)(w:World)(s:Wl.Ws)(e:Int)(h:WW p q F w s):
  Calls prog 244 #[.pointer (some ⟨p,0,none⟩),.int .i64 e] w fun E w'=>E=.returned (.int .i64 e)∧iT p q F w w' ⟨s.d,s.l,e==6⟩:=by
 have HF:=hide (h.flag (e==6))
 obtain⟨F1,G1,h1,h2,rfl⟩:=h
 obtain⟨vc,ve,rs,hv,rfl⟩:=h2
 have c1:=ai hv.blk 1 rfl
 have f1:=aA hv.blk 1
 simp only[List.getElem_toArray,List.getElem_cons_zero,List.getElem_cons_succ]at c1
 clear hv h1
 go_enter func244,ntmps244
 go_wp2
 go_ret
 exact⟨rfl,HF.out⟩
theorem aqM (p q:Nat)(F:Nat→Prop)(w:World)(s:Wl.Ws)(h:WW p q F w s):
  Calls prog 174 #[.pointer (some ⟨p,0,none⟩)] w fun E w'=>E=.returned (.int .i64 s.l.length)∧w=w':=by
 obtain⟨F1,G1,h1,h2,rfl⟩:=h
 obtain⟨vc,ve,rs,hv,rfl⟩:=h2
 have HM:=hide (oC p q w #[] _ _ _ hv.blk)
 have HE:=hide (lD p 2 w vc rs (ai hv.blk 2 rfl) hv.log.r.row.row)
 rw[hv.log.len]at HE
 clear hv h1
 go_enter func174,ntmps174
 go_wp2_with fail
 refine HM.out.mono ?_
 rintro E w1 ⟨rfl,rfl⟩
 go_wp2_with fail
 refine HE.out.mono ?_
 rintro E w1 ⟨rfl,rfl⟩
 go_wp2
 go_ret
 exact⟨rfl,rfl⟩
theorem abF (p q:Nat)(F:Nat→Prop)(w:World)(s:Wl.Ws)(h:WW p q F w s):
  Calls prog 112 #[.pointer (some ⟨p,0,none⟩)] w fun E w'=>E=.returned (.int .i64 (Cm.lastE 0 s.l))∧∃m,w'=w.drewN m:=by
 obtain⟨F1,G1,h1,h2,rfl⟩:=h
 obtain⟨vc,ve,rs,hv,rfl⟩:=h2
 have HM:=hide (oC p q w #[] _ _ _ hv.blk)
 have hgl:=fM hv.log.good
 have HE:=hide (aby p 2 w vc rs (ai hv.blk 2 rfl) hv.log.r.row.row (by rw[hv.log.len];exact hgl))
 rw[hv.log.is]at HE
 clear hv h1
 go_enter func112,ntmps112
 go_wp2_with fail
 refine HM.out.mono ?_
 rintro E w1 ⟨rfl,rfl⟩
 go_wp2_with fail
 refine HE.out.mono ?_
 rintro E w1 ⟨rfl,m,rfl⟩
 go_wp2
 go_ret
 exact⟨rfl,m,rfl⟩
theorem al0 (p q:Nat)(w:World)(l:List Cm.Cv)(bk:Bool)(vc ve:Value)(rs:List Cw)(hv:zJ p q w l bk vc ve rs):
  Calls prog 230 #[.pointer (some ⟨p,0,none⟩)] w fun E w'=>E=.returned (.int .i64 (Wl.dE l).length)∧∃m,w'=w.drewN m:=by
 have HM:=hide (oC p q w #[] _ _ _ hv.blk)
 have hgl:=fM hv.log.good
 have HE:Hid (∀n,Calls prog 139 #[.pointer (some ⟨p,2,none⟩)] (w.drewN n) fun E w'=>E=.returned (.int .i64 l.length)∧∃m,w'=(w.drewN n).drewN m):=hide fun n=>by
  have:=lD p 2 (w.drewN n) vc rs (ai hv.blk 2 rfl) (hv.log.r.row.row.below (below_drewN (Below.refl _ _) n))
  rw[hv.log.len]at this
  exact this.mono fun E w' h=>⟨h.1,0,by rw[←h.2];rfl⟩
 have HP:Hid (∀n,Calls prog 294 #[.pointer (some ⟨p,2,none⟩),.int .i64 l.length] (w.drewN n) fun E w'=>E=.returned (.int .i64 (Wl.dE l).length)∧∃m,w'=(w.drewN n).drewN m):=hide fun n=>by
  have:=abG p 2 (w.drewN n) ve l l.length (Nat.le_refl _) hgl (ai hv.blk 3 rfl) (hv.log.r.en.is.drewN n)
  rw[List.take_length]at this
  exact this.mono fun E w' h=>⟨h.1,0,by rw[←h.2];rfl⟩
 clear hv
 go_enter func230,ntmps230
 go_wp2_with fail
 refine HM.out.mono ?_
 rintro E w1 ⟨rfl,rfl⟩
 go_wp2
 go_quiet (first|(go_at_call 139;refine Calls.quiet_of (HE.out _))|(go_at_call 294;refine Calls.quiet_of (HP.out _)))
 go_wp2
 go_ret
 exact⟨rfl,_,rfl⟩
def zC (l:List Cm.Cv) (n most:Int):List Cm.Cv:=if n<1∨(l.length:Int)<n∨most<1 then []else(l.drop (n.toNat-1)).take most.toNat
theorem adS (p q:Nat)(F:Nat→Prop)(w:World)(s:Wl.Ws)(n most:Int)(h:WW p q F w s):
  Calls prog 63 #[.pointer (some ⟨p,0,none⟩),.int .i64 n,.int .i64 most] w fun E w'=>∃v rs,E=.returned v∧bD 35 w.heap.size w' v rs∧gu w.heap.size w' rs∧aD rs=zC s.l n most∧qE rs∧Below w.heap.size w w':=by
 obtain⟨F1,G1,h1,⟨vc,ve,rs,hv,rfl⟩,rfl⟩:=h
 have HM:=hide (oC p q w #[] _ _ _ hv.blk)
 have c2:w.cell? ⟨p,2,none⟩=some vc:=ai hv.blk 2 rfl
 have HE:=hide (lD p 2 w vc rs c2 hv.log.r.row.row)
 have hlen:=hv.log.len
 rw[hlen]at HE
 have hgl:=fM hv.log.good
 have HNO:Hid (∀W m,W=w.drewN m→n<1∨(s.l.length:Int)<n∨most<1→bD 35 w.heap.size W (.slice none 0 0) []∧gu w.heap.size W []∧aD []=zC s.l n most∧qE []∧Below w.heap.size w W):=hide fun W m hW hc=>by
  subst hW
  exact⟨bD.nil _ _ _,fun c hc=>by simp at hc,by unfold zC;rw[if_pos hc];rfl,fun i j c d _ hc=>by simp at hc,below_drewN (Below.refl _ _) m⟩
 by_cases a1:n<1
 ·clear hv h1 HE
  have NO:=hide (HNO.out w 0 rfl (.inl a1))
  clear HNO
  go_enter func63,ntmps63
  go_wp2_with fail
  refine HM.out.mono ?_
  rintro E w1 ⟨rfl,rfl⟩
  go_wp2
  go_ret
  exact⟨_,[],rfl,NO.out⟩
 ·by_cases a2:(s.l.length:Int)<n
  ·clear hv h1
   have NO:=hide (HNO.out w 0 rfl (.inr (.inl a2)))
   clear HNO
   go_enter func63,ntmps63
   go_wp2_with fail
   refine HM.out.mono ?_
   rintro E w1 ⟨rfl,rfl⟩
   go_wp2_with fail
   refine HE.out.mono ?_
   rintro E w1 ⟨rfl,rfl⟩
   go_wp2
   go_ret
   exact⟨_,[],rfl,NO.out⟩
  ·by_cases a3:most<1
   ·clear hv h1
    have NO:=hide (HNO.out w 0 rfl (.inr (.inr a3)))
    clear HNO
    go_enter func63,ntmps63
    go_wp2_with fail
    refine HM.out.mono ?_
    rintro E w1 ⟨rfl,rfl⟩
    go_wp2_with fail
    refine HE.out.mono ?_
    rintro E w1 ⟨rfl,rfl⟩
    go_wp2
    go_ret
    exact⟨_,[],rfl,NO.out⟩
   ·obtain⟨j,rfl⟩:∃j:Nat,n=(j:Int)+1:=⟨(n-1).toNat,by omega⟩
    obtain⟨mm,rfl⟩:∃mm:Nat,most=mm:=⟨most.toNat,by omega⟩
    have hj:j<rs.length:=by omega
    have hfr:zC s.l ((j:Int)+1) mm=(s.l.drop j).take mm:=by
     unfold zC
     rw[if_neg (by omega)]
     congr 2
    obtain⟨b0,off,cap0,dz,hcap,hcm,_,_⟩:=hv.log.r.row.row.full (by omega)
    obtain⟨v1,hs1,awQ⟩:=hv.log.r.row.row.jo Tryz.abg Tryz.abf j hj
    have hv1:v1=.slice (some ⟨b0,off+j*3,none⟩) (rs.length-j) (cap0-j):=by
     have:=hs1 w
     rw[dz,run_slice_l w 22 _ rs.length cap0 Tryz.abg .i64 _ (by omega) (by omega),Tryz.abf]at this
     have hne:¬cap0=j:=by omega
     simp[Result.andThen,sliced,hne,gG]at this
     exact this.symm
    obtain⟨m,hm⟩:∃m,m=min mm (rs.length-j):=⟨_,rfl⟩
    have hm1:1≤m:=by omega
    have aqH:m≤(rs.drop j).length:=by rw[List.length_drop];omega
    obtain⟨v2,hs2,ajp⟩:=awQ.kJ Tryz.abg Tryz.abf m aqH
    have hv2:v2=.slice (some ⟨b0,off+j*3,none⟩) m (cap0-j):=by
     have:=hs2 w
     rw[hv1,run_slice_h w 22 _ (rs.length-j) (cap0-j) Tryz.abg .i64 _ (by omega) (by rw[List.length_drop]at aqH;omega),Tryz.abf]at this
     simp[Result.andThen,sliced,Addr.add]at this
     exact this.symm
    obtain⟨rest,hrest⟩:∃rest,rest=(rs.drop j).take m:=⟨_,rfl⟩
    have hrl:rest.length=m:=by rw[hrest,List.length_take];omega
    have hcv:aD rest=(s.l.drop j).take mm:=by
     rw[hrest,aD,List.map_take,List.map_drop,←aD,hv.log.is,hm]
     rw[hlen]
     apply List.ext_getElem?
     intro i
     rw[List.getElem?_take,List.getElem?_take]
     by_cases hi:i<min mm (s.l.length-j)
     ·rw[if_pos hi,if_pos (by omega)]
     ·rw[if_neg hi]
      by_cases hi2:i<mm
      ·rw[if_pos hi2,List.getElem?_drop,List.getElem?_eq_none (by omega)]
      ·rw[if_neg hi2]
    have hin:∀c∈rest,c∈rs:=fun c hc=>List.mem_of_mem_drop (List.mem_of_mem_take (hrest▸hc))
    have aog:Hid (∀W,Below w.heap.size w W→∀c∈rest,bM W c.v c.l∧c.l.length*40≤140737488351232):=hide fun W hb c hc=>⟨((hv.log.r.iH c (hin c hc)).is).below hb,by have:=((aeY hv.log.good hv.log.is).2 c (hin c hc)).2.2;omega⟩
    have oQ:Hid (Calls prog 140 #[v2] w fun e w'=>∃g cap,e=.returned (.slice (some ⟨g,0,none⟩) m cap)∧m≤cap∧Fst w w' g m cap rest 0 rest):=hide (by
     refine(aiL v2 rest w (by rw[hrest];exact ajp) (fun c hc=>(hv.log.r.iH c (hin c hc)).is.one) (by rw[hrl];omega)).mono ?_
     rintro E w' ⟨v,rfl,own,aI⟩
     rcases own.2 with⟨_,h0⟩|⟨g,cap,cur,hvv,_,_,hc,_⟩
     ·omega
     ·refine⟨g,cap,by rw[hvv,hrl],by omega,by rw[←hrl,←hvv];exact own,hrl,rfl,fun c hc=>by simp at hc,rfl,fun i j c d _ hc=>by simp at hc,aI⟩)
    have hwr:IntKind.i64.wrap (((j:Int)+1)-1)=(j:Int):=by rw[aQ _ (by omega) (by omega)];omega
    have hne0:¬cap0=j:=by omega
    rw[hv2]at oQ
    rw[dz]at c2
    rw[hlen]at c2 hm hcap
    have FIN:Hid (∀W g cap rk,Fst w W g m cap rest m rk→bD 35 w.heap.size W (.slice (some ⟨g,0,none⟩) m cap) rk∧gu w.heap.size W rk∧aD rk=zC s.l ((j:Int)+1) mm∧qE rk∧Below w.heap.size w W):=hide fun W g cap rk hF=>by
     have ht:rk.take m=rk:=List.take_of_length_le (by rw[hF.len];omega)
     have h1:=hF.iH
     have h2:=hF.ap
     rw[ht]at h1 h2
     exact⟨hF.row,h1,by rw[hF.is,hcv,hfr],h2,hF.aI⟩
    have HRL:=hide hrl
    have hj':j<s.l.length:=by omega
    have hm3:m≤1048576:=by omega
    clear hv h1 HNO awQ ajp hv1 hv2 hs1 hs2 hrest hcv hfr hrl hin aqH dz hj hcm
    clear hlen
    have avr:Hid (∀z:Nat,z=m→Calls prog 140 #[.slice (some ⟨b0,off+j*3,none⟩) z (cap0-j)] w fun e w'=>∃g cap,e=.returned (.slice (some ⟨g,0,none⟩) m cap)∧m≤cap∧Fst w w' g m cap rest 0 rest):=hide fun z hz=>by rw[hz];exact oQ.out
    have HMM:=hide hm
    clear oQ hm
    go_enter func63,ntmps63
    go_wp2_with fail
    refine HM.out.mono ?_
    rintro E w1 ⟨rfl,rfl⟩
    go_wp2_with fail
    refine HE.out.mono ?_
    rintro E w1 ⟨rfl,rfl⟩
    go_wp2_with fail
    all_goals
     refine(avr.out _ (by rw[HMM.out];omega)).mono ?_
     rintro E w1 ⟨g,cap,rfl,hcp,F0⟩
     have F0:=hide F0
     clear avr HM HE
     go_wp2
     go_loopw [47] (fun iv wr=>∃(k:Nat) (rk:List Cw),k≤m∧iv=.int .i64 k∧Hid (Fst w wr g m cap rest k rk)) (fun iv _=>m-(intOf iv).toNat)
     case atStart=>exact⟨0,rest,by omega,rfl,F0⟩
     case round=>
      obtain⟨k,rk,hk,rfl,kD⟩:=hrel
      by_cases hlt:k<m
      ·obtain⟨c,hc⟩:∃c,rest[k]? =some c:=⟨rest[k]'(by rw[HRL.out];omega),by rw[List.getElem?_eq_getElem]⟩
       have hcm:=List.mem_of_getElem? hc
       have xV:rk[k]? =some c:=by
        have e1:(rk.drop k)[0]? =(rest.drop k)[0]? :=by rw[kD.out.left]
        rw[List.getElem?_drop,List.getElem?_drop]at e1
        simpa using e1.trans (by simpa using hc)
       obtain⟨⟨d0,d1,d2⟩,_⟩:=pR kD.out.row kD.out.len k c xV
       obtain⟨wa,hwa,aqJ,sza,ru,bA,x0,x1,x2⟩:=eY wr 35 (.int .i64 0) (.int .i64 0) (.slice none 0 0) (.int .i64 c.e) (.int .i64 c.n) c.v
       obtain⟨jP,hlo⟩:=aog.out wr kD.out.aI c hcm
       have CP:Hid (Calls prog 64 #[.agg #[.int .i64 c.e,.int .i64 c.n,c.v]] wa fun E w2=>∃v2,E=.returned (.agg #[.int .i64 c.e,.int .i64 c.n,v2])∧(∃a n z,v2=.slice a n z)∧(∃W,((w2.setCell ⟨g,k*3,none⟩ (.int .i64 c.e)).setCell ⟨g,k*3+1,none⟩ (.int .i64 c.n)).setCell ⟨g,k*3+2,none⟩ v2=W∧∃rk',Fst w W g m cap rest (k+1) rk')∧(w2.cell? ⟨g,k*3,none⟩=some (.int .i64 c.e)∧w2.cell? ⟨g,k*3+1,none⟩=some (.int .i64 c.n)∧w2.cell? ⟨g,k*3+2,none⟩=some c.v)∧(w2.frozen? ⟨g,k*3,none⟩=false∧w2.frozen? ⟨g,k*3+1,none⟩=false∧w2.frozen? ⟨g,k*3+2,none⟩=false)):=hide (by
        refine(yt c.e c.n c.v c.l wa (jP.below ru) hlo).mono ?_
        rintro E w2 ⟨v2,rfl,aW,az⟩
        have b2:Below wr.heap.size wr w2:=ru.trans (az.mono ru.size)
        have hrow2:bD 35 w.heap.size w2 (.slice (some ⟨g,0,none⟩) m cap) rk:=kD.out.row.below b2
        obtain⟨W,hW,oW,gW⟩:=aaP hrow2 kD.out.len k hlt ⟨c.e,c.n,v2,c.l⟩
        obtain⟨y,z⟩:=pR hrow2 kD.out.len k c xV
        exact⟨v2,rfl,(by obtain⟨xa,xc,hx,_⟩:=aW.is.shape;exact⟨_,_,_,hx⟩),⟨W,hW,_,kD.out.next hc hlt (aW.bn ru.size) b2 oW gW⟩,y,z⟩)
       obtain⟨ca,cc,hcv,_,_⟩:=jP.shape
       rw[hcv]at d2 hwa aqJ x2 CP
       have hlt':(k:Int)<m:=by omega
       clear kD jP hlo xV ru bA hc hcm
       go_wp2_with fail
       refine CP.out.mono ?_
       rintro E w2 ⟨v2,rfl,⟨a2,n2,z2,rfl⟩,⟨W,hW,rk2,F2⟩,⟨y0,y1,y2⟩,⟨f0,f1,f2⟩⟩
       have F2:=hide F2
       clear CP
       go_wp2
       go_roundw
       case rel=>exact⟨k+1,rk2,by omega,by go_num,F2⟩
       case measure=>simp[intOf];omega
      ·obtain rfl:k=m:=by omega
       have hlt':¬(k:Int)<k:=by omega
       have G:=hide (FIN.out _ g cap rk kD.out)
       clear kD
       go_wp2
       go_ret
       first
       |exact⟨_,rk,rfl,G.out⟩
       |exact⟨_,rfl,rk,G.out⟩
theorem uj (st:Dm.Ds):(Dm.sync st).1=0∨(Dm.sync st).1=6:=by
 unfold Dm.sync
 split
 ·exact .inr rfl
 split
 ·exact .inr rfl
 ·exact .inl rfl
theorem abo:∀(n:Nat) (st:Dm.Ds) (bs:List Int),(Dm.wrt 0 n st bs).1=0∨(Dm.wrt 0 n st bs).1=6
 |0,_,_=>.inl rfl
 |n+1,st,bs=>by
  unfold Dm.wrt
  split
  ·exact .inl rfl
  split
  ·exact .inr rfl
  ·exact abo n _ _
theorem yH {st:Dm.Ds}(bs:List Int):(Dm.write st 0 bs).1=0∨(Dm.write st 0 bs).1=6:=by
 unfold Dm.write
 split
 ·exact .inr rfl
 rw[if_neg (by decide)]
 exact abo _ _ _
def ajc (s:Wl.Ws):Prop:=Big 90000000 700000 s.d
theorem ajc.big {s:Wl.Ws}(h:ajc s):Big 100000000 800000 s.d:=Big.mono h (by decide) (by decide)
theorem amu (p q:Nat)(F:Nat→Prop)(w:World)(s:Wl.Ws)(h:WW p q F w s)(hs:ajc s):
  Calls prog 184 #[.pointer (some ⟨p,0,none⟩)] w fun E w'=>E=.returned (.int .i64 (Wl.ag3 s).1)∧iT p q F w w' (Wl.ag3 s).2:=by
 have HR:=hide (wU p q F w s h)
 have HH:=hide h
 have hb:=hs.big
 unfold Wl.ag3
 cases ha:Wl.ask s with
 |true=>
  simp only[if_true]
  clear h hs
  go_enter func184,ntmps184
  go_wp2_with fail
  refine HR.out.mono ?_
  rintro E w1 (⟨_,rfl,J⟩|⟨h0,_⟩)
  ·have J:=hide J
   go_wp2
   go_ret
   exact⟨rfl,J.out⟩
  ·rw[ha]at h0
   cases h0
 |false=>
  simp only[Bool.false_eq_true,if_false]
  obtain⟨F1,G1,h1,h2,rfl⟩:=h
  have HS:=hide (aaK q F1 w s.d h1 (fun f=>Nat.le_trans (hb.1.1 f) (by decide)) (Nat.le_trans hb.1.2.1 (by decide)) hb.2 (Nat.lt_of_le_of_lt hb.1.2.2 (by decide)))
  obtain⟨vc,ve,rs,hv,rfl⟩:=h2
  have c0:w.cell? ⟨p,0,none⟩=some (.pointer (some ⟨q,0,none⟩)):=ai hv.blk 0 rfl
  have h2:Hid (Wk p q (fun g=>g=p∨LB vc ve rs g) w s.l s.bk):=hide ⟨vc,ve,rs,hv,rfl⟩
  have H1:=hide h1
  have e01:=uj s.d
  have HD:Hid (∀x:Int,(x=0∨x=6)→(x==6)=decide (x≠0)):=hide (fun x hx=>by rcases hx with rfl|rfl<;>rfl)
  clear h1 hs hb hv
  go_enter func184,ntmps184
  go_wp2_with fail
  refine HR.out.mono ?_
  rintro E w1 (⟨h0,_⟩|⟨_,rfl,rfl⟩)
  ·rw[ha]at h0
   cases h0
  clear HR
  go_wp2_with fail
  refine HS.out.mono ?_
  rintro E w2 ⟨rfl,PS⟩
  obtain⟨F2,k1,k2,k3,k4⟩:=WW.disk H1.out h2.out PS
  have HE:=hide (acZ p q _ w2 ⟨(Dm.sync s.d).2,s.l,s.bk⟩ (Dm.sync s.d).1 ⟨F2,_,k1,k2,rfl⟩)
  simp only at HE
  rw[HD.out _ e01]at HE
  have K3:=hide k3
  have K4:=hide k4
  clear PS k1 k2 k3 k4 HS h2 H1 HD
  go_wp2_with fail
  refine HE.out.mono ?_
  rintro E w3 ⟨rfl,J⟩
  have J:=hide (iT.trans (K3.out.mono fun g hg=>.inl (Or.inl hg)) (fun g hg=>by
   rcases hg with hg|hg
   ·rcases K4.out g hg with e|e
    ·exact .inl (.inl e)
    ·exact .inr e
   ·exact .inl (.inr hg)) J)
  go_wp2
  go_ret
  exact⟨rfl,J.out⟩
theorem zu {r:List Int}{n:Nat}{e:Int}(h:Fm.Rd [] r n e):e=5∧r=[]∧n=0:=by
 rcases h with⟨_,_,_,h⟩|⟨h1,h2,h3,_⟩
 ·have h1:=(Fm.sU h).2.2
  have h2:=Vm.yj r.length
  simp at h1
  omega
 ·exact⟨h1,h2,h3⟩
theorem akx (vb:Value)(w:World)(hb:Is .u8 w vb []):
  Calls prog 65 #[vb] w fun E w'=>E=.returned (.tuple #[.agg #[.int .i64 0,.int .i64 0,.slice none 0 0],.int .i64 0,.bool false])∧Below w.heap.size w w':=by
 obtain⟨w1,hw1,s1,b1,P1⟩:=au w #[.int .i64 0,.int .i64 0,.slice none 0 0] 52
 have HB:=hide P1
 have HF:=hide (rC vb [] w1 (hb.below b1) (by simp))
 have B1:=hide b1
 obtain⟨ao,cap,hvb,_,_⟩:=hb.shape
 subst hvb
 clear hb P1 b1
 go_enter func65,ntmps65
 go_wp2_with fail
 refine HF.out.mono ?_
 rintro E w2 ⟨v2,r,n,e,rfl,aW,az,R2⟩
 have B2:=(az.block _ (ay HB.out)).trans HB.out
 have RR:=hide (B1.out.trans (az.mono (by omega)))
 obtain⟨rfl,rfl,rfl⟩:=zu R2.out
 obtain⟨o1,k1,hv1,_,_⟩:=aW.is.shape
 subst hv1
 have z0:w2.cell? ⟨w.heap.size,0,none⟩=some (.int .i64 0):=ai B2 0 rfl
 have z1:w2.cell? ⟨w.heap.size,1,none⟩=some (.int .i64 0):=ai B2 1 rfl
 have z2:w2.cell? ⟨w.heap.size,2,none⟩=some (.slice none 0 0):=ai B2 2 rfl
 have u0:w2.setCell ⟨w.heap.size,0,none⟩ (.int .i64 0)=w2:=aK B2 (j:=0) rfl
 have u1:w2.setCell ⟨w.heap.size,1,none⟩ (.int .i64 0)=w2:=aK B2 (j:=1) rfl
 have u2:w2.setCell ⟨w.heap.size,2,none⟩ (.slice none 0 0)=w2:=aK B2 (j:=2) rfl
 have f0:=aA B2 0;have f1:=aA B2 1;have f2:=aA B2 2
 clear B2 R2 HB HF B1 az aW
 go_wp2
 refine bodyPost_ret (v:=.tuple #[.agg #[.int .i64 0,.int .i64 0,.slice none 0 0],.int .i64 0,.bool false]) (by simp[results,results65,go_sem,z0,z1,z2]) rfl ?_
 exact⟨rfl,RR.out⟩
theorem abX (vb:Value)(bs:List Int)(w:World)(hb:Is .u8 w vb bs)(h0:bs=[]):
  Calls prog 22 #[vb] w fun E w'=>E=.returned (.tuple #[.slice none 0 0,.int .i64 0])∧Below w.heap.size w w':=by
 obtain⟨n,hn⟩:∃n:Nat,n=0:=⟨0,rfl⟩
 have hl:bs.length≤1000:=by simp[h0]
 have hle:n≤bs.length:=by omega
 have HN:=hide hn
 obtain⟨vs,hsl,gT⟩:=hb.jo Tryz.ak8 Tryz.amo n hle
 have HF:=hide (akx vs w (by rw[h0,List.drop_nil]at gT;exact gT))
 obtain⟨ba,bc,hvb,_,_⟩:=hb.shape
 clear hb gT hn h0
 subst hvb
 go_enter func22,ntmps22
 go_wp2
 go_loopw [4,5,6] (fun lv ev gv wr=>lv=.slice none 0 0∧ev=.int .i64 0∧gv=.int .i64 n∧wr=w) (fun _ _ _ _=>0)
 case atStart=>exact⟨rfl,rfl,by rw[HN.out];rfl,rfl⟩
 case round=>
  obtain⟨rfl,rfl,rfl,hwr⟩:=hrel
  subst hwr
  go_wp2_with fail
  refine HF.out.mono ?_
  rintro E wa ⟨rfl,ba'⟩
  obtain⟨V,hV,sV,bV,PV⟩:=au wa #[.int .i64 0,.int .i64 0,.slice none 0 0] 52
  have BA:=hide (ba'.trans (bV.mono ba'.size))
  have c0:V.cell? ⟨wa.heap.size,0,none⟩=some (.int .i64 0):=ai PV 0 rfl
  have c1:V.cell? ⟨wa.heap.size,1,none⟩=some (.int .i64 0):=ai PV 1 rfl
  have c2:V.cell? ⟨wa.heap.size,2,none⟩=some (.slice none 0 0):=ai PV 2 rfl
  have u0:V.setCell ⟨wa.heap.size,0,none⟩ (.int .i64 0)=V:=aK PV (j:=0) rfl
  have u1:V.setCell ⟨wa.heap.size,1,none⟩ (.int .i64 0)=V:=aK PV (j:=1) rfl
  have u2:V.setCell ⟨wa.heap.size,2,none⟩ (.slice none 0 0)=V:=aK PV (j:=2) rfl
  have f0:=aA PV 0;have f1:=aA PV 1;have f2:=aA PV 2
  clear HF hsl ba' bV PV sV
  go_wp2
  go_ret2
  exact⟨by rw[HN.out];rfl,BA.out⟩
theorem ae9 (p q:Nat)(F:Nat→Prop)(w:World)(st:Dm.Ds)(h:Pk q F w st)(hs:Big 90000000 700000 st)(hp:w.cell? ⟨p,0,none⟩=some (.pointer (some ⟨q,0,none⟩)))(ho:st.on=true)(he:Rst.hf 3 st=[]):
  Calls prog 180 #[.pointer (some ⟨p,0,none⟩)] w fun E w'=>E=.returned (.int .i64 0)∧Below w.heap.size w w':=by
 have hr:rH st 3=Rst.hf 3 st:=by unfold rH;rw[if_neg (by simp[ho]),if_neg (by decide)];rfl
 have R1:=hide (om q F w st 3 h (fun f=>Nat.le_trans (hs.1.1 f) (by decide)) (Nat.le_trans hs.1.2.1 (by decide)))
 rw[hr]at R1
 have HE:=hide he
 clear h hs hr he
 go_enter func180,ntmps180
 go_wp2_with fail
 refine R1.out.mono ?_
 rintro E w1 ⟨v,rfl,O1,B1⟩
 have S1:=hide (abX v _ w1 O1.is HE.out)
 have B1:=hide B1
 clear R1 O1
 go_wp2_with fail
 refine S1.out.mono ?_
 rintro E w2 ⟨rfl,b2⟩
 have X:=hide (B1.out.trans (b2.mono B1.out.size))
 clear S1 b2
 go_wp2
 go_ret
 exact⟨rfl,X.out⟩
end Go.Proofs.YtlmkaljjocflmaaGreatDoor
namespace Go.Proofs.YtlmkaljjocflmaaGreatDoor
def T3 (d:Dm.Ds):Prop:=Rst.hf 3 d=[]
theorem ai0 {d d':Dm.Ds}(h:T3 d)(e:Rst.hf 3 d'=Rst.hf 3 d):T3 d':=e.trans h
theorem awh:T3 Dm.new:=rfl
theorem anQ (f j:Nat)(hj:f≠j):∀(n:Nat) (st:Dm.Ds) (bs:List Int),Rst.hf j (Dm.wrt f n st bs).2=Rst.hf j st
 |0,st,bs=>rfl
 |n+1,st,bs=>by
  unfold Dm.wrt
  split
  ·rfl
  split
  ·rfl
  rw[anQ f j hj n,Rst.acN,if_neg hj]
theorem aac (d:Dm.Ds)(f:Int)(bs:List Int)(j:Nat)(hj:f.toNat≠j):Rst.hf j (Dm.write d f bs).2=Rst.hf j d:=by
 unfold Dm.write
 split
 ·rfl
 split
 ·rfl
 exact anQ _ _ hj _ _ _
theorem tq (d:Dm.Ds)(j:Nat):Rst.hf j (Dm.sync d).2=Rst.hf j d:=by
 unfold Dm.sync
 split
 ·rfl
 split
 ·rfl
 show Dm.hold j (Dm.dof d.sure d.wait j) []=_
 rw[←Dm.qH]
 rfl
theorem aut (d:Dm.Ds)(f:Nat)(bs:List Int)(j:Nat)(hj:f≠j):Rst.hf j (Rst.ext d f bs).2=Rst.hf j d:=by
 have h1:=aac d f bs j (by simpa using hj)
 unfold Rst.ext
 split
 ·exact h1
 split
 ·exact(tq _ j).trans h1
 ·exact(tq _ j).trans h1
theorem alx (j:Nat)(hj:0≠j):∀(cs:List Cm.Cv) (d:Dm.Ds),Rst.hf j (Rst.wrs d cs).2=Rst.hf j d
 |[],d=>rfl
 |c::cs,d=>by
  have h1:=aac d 0 (Wl.fr c) j (by simpa using hj)
  unfold Rst.wrs
  split
  ·exact h1
  ·exact(alx j hj cs _).trans h1
theorem avl (d:Dm.Ds)(cs:List Cm.Cv)(j:Nat)(hj:0≠j):Rst.hf j (Rst.fF d cs).2=Rst.hf j d:=by
 have h1:=alx j hj cs d
 unfold Rst.fF
 split
 ·exact h1
 split
 ·exact(tq _ j).trans h1
 ·exact(tq _ j).trans h1
theorem auj (s:Rl.Rs)(c:Cm.Cv)(j:Nat)(hj:2≠j):Rst.hf j (Rl.aN s c).2.d=Rst.hf j s.d:=by
 have h1:=aac s.d 2 (Rl.fr c) j (by simpa using hj)
 have h2:Rst.hf j (Rl.ext s.d (Rl.fr c)).2=Rst.hf j s.d:=by
  unfold Rl.ext
  split
  ·exact h1
  ·exact(tq _ j).trans h1
 unfold Rl.aN
 split
 ·rfl
 split
 ·rfl
 split
 ·rfl
 split
 ·exact h2
 ·exact h2
theorem atF (s:Sto.Ss)(u:Int)(j:Nat)(hj:2≠j):Rst.hf j (Sto.aN s u).2.r.d=Rst.hf j s.r.d:=by
 have h:=auj s.r (Sto.dW s u) j hj
 unfold Sto.aN
 split
 ·rfl
 split
 ·rfl
 split
 ·rfl
 split
 ·exact h
 ·exact h
def Rz (n:Nat) (s:Rst.St):Prop:=Big (60000*n) (1000*n) s.d∧s.l.length≤2*n∧T3 s.d
theorem Rz.mono {n m:Nat}{s:Rst.St}(h:Rz n s)(hm:n≤m):Rz m s:=⟨h.1.mono (by omega) (by omega),by have:=h.2.1;omega,h.2.2⟩
theorem aqz {t u:Nat}{d:Dm.Ds}{bs:List Int}(f:Nat)(h:Big t u d)(hl:bs.length≤1000):Big (t+1000) (u+17) (Rst.ext d f bs).2:=by
 have hc:cnt bs.length≤16:=by unfold cnt;omega
 have h1:=lJ h f bs
 have h2:=zZ h1
 unfold Rst.ext
 split
 ·exact h1.mono (by omega) (by omega)
 ·split
  ·exact h2.mono (by omega) (by omega)
  ·exact h2.mono (by omega) (by omega)
theorem avg {n:Nat}{s:Rst.St}(h:Rz n s)(q:Pm.Pg):Rz (n+1) (Rst.dB s q).2:=by
 have hm:Rz (n+1) s:=h.mono (by omega)
 unfold Rst.dB
 split
 ·exact hm
 split
 ·exact hm
 rename_i hc
 split
 ·exact hm
 have hq:Pm.Ok q:=Pm.qg.1 (by simpa using hc)
 have hl:(Fm.dK (Pm.enc q)).length≤1000:=by
  have h1:=Pm.aci hq
  have h2:Vm.sz (Pm.enc q).length≤1:=Vm.uq 0 _ (by omega)
  rw[Fm.nA]
  omega
 have hb:=aqz 1 h.1 hl
 have ht:=ai0 h.2.2 (aut s.d 1 (Fm.dK (Pm.enc q)) 3 (by omega))
 split
 ·exact⟨hb.mono (by omega) (by omega),by have:=h.2.1;show s.l.length≤_;omega,ht⟩
 ·exact⟨hb.mono (by omega) (by omega),by have:=h.2.1;show s.l.length≤_;omega,ht⟩
theorem ahB:∀(cs:List Cm.Cv) {t u:Nat} {d:Dm.Ds},Big t u d→(∀c∈cs,Cm.chk c.e c.n c.l=0)→Big (t+433*cs.length) (u+7*cs.length) (Rst.wrs d cs).2
 |[],t,u,d,h,_=>h.mono (by omega) (by omega)
 |c::cs,t,u,d,h,hc=>by
  have hf:=Wl.lG (c:=c) (hc c List.mem_cons_self)
  have hn:cnt (Wl.fr c).length≤7:=by unfold cnt;omega
  have h1:=lJ h 0 (Wl.fr c)
  have h2:=ahB cs h1 fun x hx=>hc x (List.mem_cons_of_mem _ hx)
  unfold Rst.wrs
  split
  ·exact h1.mono (by rw[List.length_cons];omega) (by rw[List.length_cons];omega)
  ·exact h2.mono (by rw[List.length_cons];omega) (by rw[List.length_cons];omega)
theorem awv {n:Nat}{s:Rst.St}(h:Rz n s)(cs:List Cm.Cv)(hl:cs.length≤2):Rz (n+1) (Rst.add s cs).2:=by
 have hm:Rz (n+1) s:=h.mono (by omega)
 unfold Rst.add
 split
 ·exact hm
 split
 ·exact hm
 rename_i hc
 split
 ·exact hm
 split
 ·exact hm
 have hg:Cm.Good (Cm.lastE 0 s.l) s.l.length cs:=(Cm.iN _ _ _ 0).1 (by simpa using hc)
 have h1:=ahB cs h.1 fun c hcc=>(Sto.gI hg c hcc).1
 have h2:=zZ h1
 have hb:Big (60000*n+433*cs.length) (1000*n+7*cs.length+1) (Rst.fF s.d cs).2:=by
  unfold Rst.fF
  split
  ·exact h1.mono (by omega) (by omega)
  ·split
   ·exact h2
   ·exact h2
 have ht:=ai0 h.2.2 (avl s.d cs 3 (by omega))
 split
 ·exact⟨hb.mono (by omega) (by omega),by have:=h.2.1;show s.l.length≤_;omega,ht⟩
 ·refine⟨hb.mono (by omega) (by omega),?_,ht⟩
  have:=h.2.1
  show(s.l++cs).length≤_
  rw[List.length_append]
  omega
theorem aqs {t u:Nat}{st:Dm.Ds}{bs:List Int}(h:Big t u st)(hl:bs.length≤52236):Big (t+52236) (u+818) (Rl.ext st bs).2:=by
 have hc:=ahW hl
 have h1:=lJ h 2 bs
 have h2:=zZ h1
 unfold Rl.ext
 split
 ·exact h1.mono (by omega) (by omega)
 ·exact h2.mono (by omega) (by omega)
theorem ao4 {t u:Nat}{s:Rl.Rs}{c:Cm.Cv}(h:Big t u s.d):Big (t+52236) (u+818) (Rl.aN s c).2.d:=by
 have hm:Big (t+52236) (u+818) s.d:=h.mono (by omega) (by omega)
 unfold Rl.aN
 split
 ·exact hm
 split
 ·exact hm
 rename_i hc
 split
 ·exact hm
 have hl:=Rl.lG (c:=c) (by simpa using hc)
 have hb:=aqs h hl
 split
 ·exact hb
 ·exact hb
theorem avO {n:Nat}{s:Rst.St}(h:Rz n s)(u:Int):Rz (n+1) (Rst.aN s u).2:=by
 have hm:Rz (n+1) s:=h.mono (by omega)
 have hb:Big (60000*n+52236) (1000*n+818) (Sto.aN (Rst.aP s) u).2.r.d:=by
  have hk:Big (60000*n+52236) (1000*n+818) s.d:=h.1.mono (by omega) (by omega)
  have hr:=ao4 (s:=(Rst.aP s).r) (c:=Sto.dW (Rst.aP s) u) h.1
  unfold Sto.aN
  split
  ·exact hk
  split
  ·exact hk
  split
  ·exact hk
  split
  ·exact hr
  ·exact hr
 unfold Rst.aN
 split
 ·exact hm
 split
 ·exact hm
 split
 ·exact hm
 exact⟨hb.mono (by omega) (by omega),by have:=h.2.1;show s.l.length≤_;omega,ai0 h.2.2 (atF (Rst.aP s) u 3 (by omega))⟩
end Go.Proofs.YtlmkaljjocflmaaGreatDoor

/- Texts of one layer, one behind the other. -/
import Derived.Test.YtpifdeoepppadaaGreatDoorH12
import Derived.Test.YtpifdeoepppadaaGreatDoorG14
import Derived.Test.YtpifdeoepppadaaGreatDoorH13
import Derived.Test.YtpifdeoepppadaaGreatDoorH11
import Derived.Test.YtpifdeoepppadaaGreatDoorH6
import Derived.Test.YtpifdeoepppadaaGreatDoorG15
import Derived.Test.YtpifdeoepppadaaGreatDoorH1
import Derived.Test.YtpifdeoepppadaaGreatDoorG4
import Derived.Test.YtpifdeoepppadaaGreatDoorH16
import Derived.Test.YtpifdeoepppadaaGreatDoorH18
import Derived.Test.YtpifdeoepppadaaGreatDoorH10
import Derived.Test.YtpifdeoepppadaaGreatDoorH17
set_option maxRecDepth 100000
set_option maxHeartbeats 8000000
namespace Go.Proofs.YtpifdeoepppadaaGreatDoor
open Go.RowKit
set_option linter.unusedVariables false
def frl (l:List Cm.Cv) (n most:Int):List Cm.Cv:=if n<1∨(l.length:Int)<n∨most<1 then []else(l.drop (n.toNat-1)).take most.toNat
theorem aeu (p q:Nat)(F:Nat→Prop)(w:World)(s:Wl.Ws)(n most:Int)(h:WW p q F w s):
  Calls Tryz.prog 91 #[.pointer (some ⟨p,0,none⟩),.int .i64 n,.int .i64 most] w fun E w'=>∃v rs,E=.returned v∧bG 32 w.heap.size w' v rs∧fC w.heap.size w' rs∧aD rs=frl s.l n most∧nH rs∧Below w.heap.size w w':=by
 obtain⟨F1,G1,h1,⟨vc,ve,rs,hv,rfl⟩,rfl⟩:=h
 have HM:=hide (oQ p q w #[] _ _ _ hv.blk)
 have c2:w.cell? ⟨p,2,none⟩=some vc:=ai hv.blk 2 rfl
 have HE:=hide (lI p 2 w vc rs c2 hv.log.r.row.row)
 have hlen:=hv.log.len
 rw[hlen]at HE
 have hgl:=eB hv.log.good
 have yz:Hid (∀W m,W=w.drewN m→n<1∨(s.l.length:Int)<n∨most<1→bG 32 w.heap.size W (.slice none 0 0) []∧fC w.heap.size W []∧aD []=frl s.l n most∧nH []∧Below w.heap.size w W):=hide fun W m hW hc=>by
  subst hW
  exact⟨bG.nil _ _ _,fun c hc=>by simp at hc,by unfold frl;rw[if_pos hc];rfl,fun i j c d _ hc=>by simp at hc,below_drewN (Below.refl _ _) m⟩
 by_cases a1:n<1
 ·clear hv h1 HE
  have NO:=hide (yz.out w 0 rfl (.inl a1))
  clear yz
  go_enter Tryz.func91,Tryz.ntmps91
  go_wp2_with fail
  refine HM.out.mono ?_
  rintro E w1 ⟨rfl,rfl⟩
  go_wp2
  go_ret
  exact⟨_,[],rfl,NO.out⟩
 ·by_cases a2:(s.l.length:Int)<n
  ·clear hv h1
   have NO:=hide (yz.out w 0 rfl (.inr (.inl a2)))
   clear yz
   go_enter Tryz.func91,Tryz.ntmps91
   go_wp2_with fail
   refine HM.out.mono ?_
   rintro E w1 ⟨rfl,rfl⟩
   go_wp2_with fail
   refine HE.out.mono ?_
   rintro E w1 ⟨rfl,rfl⟩
   go_wp2
   go_ret
   exact⟨_,[],rfl,NO.out⟩
  ·by_cases a3:most<1
   ·clear hv h1
    have NO:=hide (yz.out w 0 rfl (.inr (.inr a3)))
    clear yz
    go_enter Tryz.func91,Tryz.ntmps91
    go_wp2_with fail
    refine HM.out.mono ?_
    rintro E w1 ⟨rfl,rfl⟩
    go_wp2_with fail
    refine HE.out.mono ?_
    rintro E w1 ⟨rfl,rfl⟩
    go_wp2
    go_ret
    exact⟨_,[],rfl,NO.out⟩
   ·obtain⟨j,rfl⟩:∃j:Nat,n=(j:Int)+1:=⟨(n-1).toNat,by omega⟩
    obtain⟨mm,rfl⟩:∃mm:Nat,most=mm:=⟨most.toNat,by omega⟩
    have hj:j<rs.length:=by omega
    have hfr:frl s.l ((j:Int)+1) mm=(s.l.drop j).take mm:=by
     unfold frl
     rw[if_neg (by omega)]
     congr 2
    obtain⟨b0,off,cap0,mg,hcap,hcm,_,_⟩:=hv.log.r.row.row.full (by omega)
    obtain⟨v1,hs1,ay4⟩:=hv.log.r.row.row.dP Tryz.xq Tryz.wM j hj
    have hv1:v1=.slice (some ⟨b0,off+j*3,none⟩) (rs.length-j) (cap0-j):=by
     have:=hs1 w
     rw[mg,run_slice_l w 43 _ rs.length cap0 Tryz.xq .i64 _ (by omega) (by omega),Tryz.wM]at this
     have hne:¬cap0=j:=by omega
     simp[Result.andThen,sliced,hne,fD]at this
     exact this.symm
    obtain⟨m,hm⟩:∃m,m=min mm (rs.length-j):=⟨_,rfl⟩
    have hm1:1≤m:=by omega
    have aq4:m≤(rs.drop j).length:=by rw[List.length_drop];omega
    obtain⟨v2,hs2,akg⟩:=ay4.jW Tryz.xq Tryz.wM m aq4
    have hv2:v2=.slice (some ⟨b0,off+j*3,none⟩) m (cap0-j):=by
     have:=hs2 w
     rw[hv1,run_slice_h w 43 _ (rs.length-j) (cap0-j) Tryz.xq .i64 _ (by omega) (by rw[List.length_drop]at aq4;omega),Tryz.wM]at this
     simp[Result.andThen,sliced,Addr.add]at this
     exact this.symm
    obtain⟨rest,hrest⟩:∃rest,rest=(rs.drop j).take m:=⟨_,rfl⟩
    have hrl:rest.length=m:=by rw[hrest,List.length_take];omega
    have hcv:aD rest=(s.l.drop j).take mm:=by
     rw[hrest,aD,List.map_take,List.map_drop,←aD,hv.log.is,hm]
     rw[hlen]
     apply List.ext_getElem?
     intro i
     rw[List.getElem?_take,List.getElem?_take]
     by_cases hi:i<min mm (s.l.length-j)
     ·rw[if_pos hi,if_pos (by omega)]
     ·rw[if_neg hi]
      by_cases hi2:i<mm
      ·rw[if_pos hi2,List.getElem?_drop,List.getElem?_eq_none (by omega)]
      ·rw[if_neg hi2]
    have hin:∀c∈rest,c∈rs:=fun c hc=>List.mem_of_mem_drop (List.mem_of_mem_take (hrest▸hc))
    have ahq:Hid (∀W,Below w.heap.size w W→∀c∈rest,dm W c.v c.l∧c.l.length*40≤140737488351232):=hide fun W hb c hc=>⟨((hv.log.r.gT c (hin c hc)).is).below hb,by have:=((abd hv.log.good hv.log.is).2 c (hin c hc)).2.2;omega⟩
    have l7:Hid (Calls Tryz.prog 144 #[v2] w fun e w'=>∃g cap,e=.returned (.slice (some ⟨g,0,none⟩) m cap)∧m≤cap∧Fst w w' g m cap rest 0 rest):=hide (by
     refine(abu v2 rest w (by rw[hrest];exact akg) (fun c hc=>(hv.log.r.gT c (hin c hc)).is.one) (by rw[hrl];omega)).mono ?_
     rintro E w' ⟨v,rfl,own,aF⟩
     rcases own.2 with⟨_,h0⟩|⟨g,cap,cur,hvv,_,_,hc,_⟩
     ·omega
     ·refine⟨g,cap,by rw[hvv,hrl],by omega,by rw[←hrl,←hvv];exact own,hrl,rfl,fun c hc=>by simp at hc,rfl,fun i j c d _ hc=>by simp at hc,aF⟩)
    have hwr:IntKind.i64.wrap (((j:Int)+1)-1)=(j:Int):=by rw[aN _ (by omega) (by omega)];omega
    have hne0:¬cap0=j:=by omega
    rw[hv2]at l7
    rw[mg]at c2
    rw[hlen]at c2 hm hcap
    have FIN:Hid (∀W g cap rk,Fst w W g m cap rest m rk→bG 32 w.heap.size W (.slice (some ⟨g,0,none⟩) m cap) rk∧fC w.heap.size W rk∧aD rk=frl s.l ((j:Int)+1) mm∧nH rk∧Below w.heap.size w W):=hide fun W g cap rk hF=>by
     have ht:rk.take m=rk:=List.take_of_length_le (by rw[hF.len];omega)
     have h1:=hF.gT
     have h2:=hF.ap
     rw[ht]at h1 h2
     exact⟨hF.row,h1,by rw[hF.is,hcv,hfr],h2,hF.aF⟩
    have HRL:=hide hrl
    have hj':j<s.l.length:=by omega
    have hm3:m≤1048576:=by omega
    clear hv h1 yz ay4 akg hv1 hv2 hs1 hs2 hrest hcv hfr hrl hin aq4 mg hj hcm
    clear hlen
    have axu:Hid (∀z:Nat,z=m→Calls Tryz.prog 144 #[.slice (some ⟨b0,off+j*3,none⟩) z (cap0-j)] w fun e w'=>∃g cap,e=.returned (.slice (some ⟨g,0,none⟩) m cap)∧m≤cap∧Fst w w' g m cap rest 0 rest):=hide fun z hz=>by rw[hz];exact l7.out
    have HMM:=hide hm
    clear l7 hm
    go_enter Tryz.func91,Tryz.ntmps91
    go_wp2_with fail
    refine HM.out.mono ?_
    rintro E w1 ⟨rfl,rfl⟩
    go_wp2_with fail
    refine HE.out.mono ?_
    rintro E w1 ⟨rfl,rfl⟩
    go_wp2_with fail
    all_goals
     refine(axu.out _ (by rw[HMM.out];omega)).mono ?_
     rintro E w1 ⟨g,cap,rfl,hcp,F0⟩
     have F0:=hide F0
     clear axu HM HE
     go_wp2
     go_loopw [47] (fun iv wr=>∃(k:Nat) (rk:List Cw),k≤m∧iv=.int .i64 k∧Hid (Fst w wr g m cap rest k rk)) (fun iv _=>m-(intOf iv).toNat)
     case atStart=>exact⟨0,rest,by omega,rfl,F0⟩
     case round=>
      obtain⟨k,rk,hk,rfl,eH⟩:=hrel
      by_cases hlt:k<m
      ·obtain⟨c,hc⟩:∃c,rest[k]? =some c:=⟨rest[k]'(by rw[HRL.out];omega),by rw[List.getElem?_eq_getElem]⟩
       have hcm:=List.mem_of_getElem? hc
       have rZ:rk[k]? =some c:=by
        have e1:(rk.drop k)[0]? =(rest.drop k)[0]? :=by rw[eH.out.left]
        rw[List.getElem?_drop,List.getElem?_drop]at e1
        simpa using e1.trans (by simpa using hc)
       obtain⟨⟨d0,d1,d2⟩,_⟩:=mD eH.out.row eH.out.len k c rZ
       obtain⟨wa,hwa,afY,sza,jL,bA,x0,x1,x2⟩:=dO wr 32 (.int .i64 0) (.int .i64 0) (.slice none 0 0) (.int .i64 c.e) (.int .i64 c.n) c.v
       obtain⟨jo,hlo⟩:=ahq.out wr eH.out.aF c hcm
       have CP:Hid (Calls Tryz.prog 92 #[.agg #[.int .i64 c.e,.int .i64 c.n,c.v]] wa fun E w2=>∃v2,E=.returned (.agg #[.int .i64 c.e,.int .i64 c.n,v2])∧(∃a n z,v2=.slice a n z)∧(∃W,((w2.setCell ⟨g,k*3,none⟩ (.int .i64 c.e)).setCell ⟨g,k*3+1,none⟩ (.int .i64 c.n)).setCell ⟨g,k*3+2,none⟩ v2=W∧∃rk',Fst w W g m cap rest (k+1) rk')∧(w2.cell? ⟨g,k*3,none⟩=some (.int .i64 c.e)∧w2.cell? ⟨g,k*3+1,none⟩=some (.int .i64 c.n)∧w2.cell? ⟨g,k*3+2,none⟩=some c.v)∧(w2.frozen? ⟨g,k*3,none⟩=false∧w2.frozen? ⟨g,k*3+1,none⟩=false∧w2.frozen? ⟨g,k*3+2,none⟩=false)):=hide (by
        refine(tq c.e c.n c.v c.l wa (jo.below jL) hlo).mono ?_
        rintro E w2 ⟨v2,rfl,bq,aB⟩
        have b2:Below wr.heap.size wr w2:=jL.trans (aB.mono jL.size)
        have hrow2:bG 32 w.heap.size w2 (.slice (some ⟨g,0,none⟩) m cap) rk:=eH.out.row.below b2
        obtain⟨W,hW,oW,gW⟩:=vV hrow2 eH.out.len k hlt ⟨c.e,c.n,v2,c.l⟩
        obtain⟨y,z⟩:=mD hrow2 eH.out.len k c rZ
        exact⟨v2,rfl,(by obtain⟨xa,xc,hx,_⟩:=bq.is.shape;exact⟨_,_,_,hx⟩),⟨W,hW,_,eH.out.next hc hlt (bq.bz jL.size) b2 oW gW⟩,y,z⟩)
       obtain⟨ca,cc,hcv,_,_⟩:=jo.shape
       rw[hcv]at d2 hwa afY x2 CP
       have hlt':(k:Int)<m:=by omega
       clear eH jo hlo rZ jL bA hc hcm
       go_wp2_with fail
       refine CP.out.mono ?_
       rintro E w2 ⟨v2,rfl,⟨a2,n2,z2,rfl⟩,⟨W,hW,rk2,F2⟩,⟨y0,y1,y2⟩,⟨f0,f1,f2⟩⟩
       have F2:=hide F2
       clear CP
       go_wp2
       go_roundw
       case rel=>exact⟨k+1,rk2,by omega,by go_num,F2⟩
       case measure=>simp[intOf];omega
      ·obtain rfl:k=m:=by omega
       have hlt':¬(k:Int)<k:=by omega
       have G:=hide (FIN.out _ g cap rk eH.out)
       clear eH
       go_wp2
       go_ret
       first
       |exact⟨_,rk,rfl,G.out⟩
       |exact⟨_,rfl,rk,G.out⟩
theorem alN (q:Nat)(F:Nat→Prop)(w:World)(st:Dm.Ds)(len:Int)(h:Pk q F w st)(hs:Big 100000000 800000 st):
  Calls Tryz.prog 155 #[.pointer (some ⟨q,0,none⟩),.int .i64 len] w fun E w'=>E=.returned (.int .i64 (if (Dm.bg st 0 len).1≠0 then(Dm.bg st 0 len).1 else(Dm.sync (Dm.bg st 0 len).2).1))∧aP q F w w' (if (Dm.bg st 0 len).1≠0 then(Dm.bg st 0 len).2 else(Dm.sync (Dm.bg st 0 len).2).2):=by
 have HC:=hide (adu q F w st 0 len h (fun f=>Nat.le_trans (hs.1.1 f) (by decide)) (Nat.le_trans hs.1.2.1 (by decide)) hs.2 (Nat.lt_of_le_of_lt hs.1.2.2 (by decide)))
 have hs2:=zz hs 0 len
 have HS:Hid (∀W G,Pk q G W (Dm.bg st 0 len).2→Calls Tryz.prog 138 #[.pointer (some ⟨q,0,none⟩)] W fun E w'=>E=.returned (.int .i64 (Dm.sync (Dm.bg st 0 len).2).1)∧aP q G W w' (Dm.sync (Dm.bg st 0 len).2).2):=hide fun W G hk=>nT q G W _ hk (fun f=>Nat.le_trans (hs2.1.1 f) (by decide)) (Nat.le_trans hs2.1.2.1 (by decide)) hs2.2 (Nat.lt_of_le_of_lt hs2.1.2.2 (by decide))
 generalize Dm.bg st 0 len=x at*
 obtain⟨e,st2⟩:=x
 simp only at*
 generalize Dm.sync st2=y at*
 obtain⟨f,st3⟩:=y
 simp only at*
 clear h hs hs2
 by_cases he:e=0
 ·subst he
  simp only[ne_eq,not_true,if_false]
  go_enter Tryz.func155,Tryz.ntmps155
  go_wp2_with fail
  refine HC.out.mono ?_
  rintro E w1 ⟨rfl,F1,k1,k2,k3⟩
  have HS1:=hide (HS.out w1 F1 k1)
  have K2:=hide k2
  have K3:=hide k3
  clear k1 k2 k3 HC HS
  go_wp2_with fail
  refine HS1.out.mono ?_
  rintro E w2 ⟨rfl,J⟩
  have J:=hide (aP.trans K2.out K3.out J)
  go_wp2
  go_ret
  exact⟨rfl,J.out⟩
 ·simp only[ne_eq,he,not_false_eq_true,if_true]
  have hne:(e !=0)=true:=by simp[he]
  go_enter Tryz.func155,Tryz.ntmps155
  go_wp2_with fail
  refine HC.out.mono ?_
  rintro E w1 ⟨rfl,J⟩
  have J:=hide J
  clear HC HS
  go_wp2
  go_ret
  exact⟨rfl,J.out⟩
def gP (st:Dm.Ds) (l:List Cm.Cv):Int:=if st.on=false then 6 else(Wl.bT st (Wl.aW l).length).1
def fV (st:Dm.Ds) (l:List Cm.Cv):Dm.Ds:=if st.on=false then st else(Wl.bT st (Wl.aW l).length).2
theorem azW (st:Dm.Ds)(n:Nat):(Wl.bT st n).1=0∨(Wl.bT st n).1=6:=by
 unfold Wl.bT
 split
 ·exact .inl rfl
 split
 ·exact .inr rfl
 split
 ·exact .inr rfl
 ·exact .inl rfl
theorem az5 {st:Dm.Ds}{n:Nat}(ho:st.on=true)(hn:n≤(Wl.hld st).length):(Dm.bg st 0 n).1=0∨(Dm.bg st 0 n).1=6:=by
 unfold Dm.bg
 rw[if_neg (by simp[ho]),if_neg (by decide),if_neg ?_]
 ·split
  ·exact .inr rfl
  ·exact .inl rfl
 ·unfold Wl.hld at hn
  simp
  omega
theorem mJ (st:Dm.Ds):(Dm.sync st).1=0∨(Dm.sync st).1=6:=by
 unfold Dm.sync
 split
 ·exact .inr rfl
 split
 ·exact .inr rfl
 ·exact .inl rfl
theorem acL:∀(n:Nat) (st:Dm.Ds) (bs:List Int),(Dm.wrt 0 n st bs).1=0∨(Dm.wrt 0 n st bs).1=6
 |0,_,_=>.inl rfl
 |n+1,st,bs=>by
  unfold Dm.wrt
  split
  ·exact .inl rfl
  split
  ·exact .inr rfl
  ·exact acL n _ _
theorem zD {st:Dm.Ds}(bs:List Int):(Dm.write st 0 bs).1=0∨(Dm.write st 0 bs).1=6:=by
 unfold Dm.write
 split
 ·exact .inr rfl
 rw[if_neg (by decide)]
 exact acL _ _ _
theorem axn {st:Dm.Ds}{n:Nat}(ho:st.on=true)(hn:n≤(Wl.hld st).length)(hne:(Wl.hld st).length≠n):
  (if (Dm.bg st 0 n).1≠0 then(Dm.bg st 0 n).1 else(Dm.sync (Dm.bg st 0 n).2).1)=(Wl.bT st n).1∧(if (Dm.bg st 0 n).1≠0 then(Dm.bg st 0 n).2 else(Dm.sync (Dm.bg st 0 n).2).2)=(Wl.bT st n).2:=by
 unfold Wl.bT
 rw[if_neg hne]
 rcases az5 ho hn with e|e
 ·rw[e]
  simp only[ne_eq,not_true,if_false]
  rcases mJ (Dm.bg st 0 n).2 with f|f
  ·rw[f];simp
  ·rw[f];simp
 ·rw[e]
  simp
theorem atG {st:Dm.Ds}{t u:Nat}(h:Big t u st):(Wl.hld st).length≤t:=by
 unfold Wl.hld
 exact Nat.le_trans (Dm.kD st.wait (st.sure 0) 0) (h.1.1 0)
theorem auN {st:Dm.Ds}(ho:st.on=true):mV st 0=Wl.hld st∧mR st 0=0:=by
 unfold mV mR
 rw[if_neg (by simp[ho]),if_neg (by decide),if_neg (by simp[ho]),if_neg (by decide)]
 exact⟨rfl,rfl⟩
theorem ad9 (q:Nat)(F:Nat→Prop)(w:World)(st:Dm.Ds)(h:Pk q F w st)(hs:Big 100000000 800000 st):
  Calls Tryz.prog 107 #[.pointer (some ⟨q,0,none⟩)] w fun E w'=>∃l,Hid (Wl.Lg 0 0 (Wl.hld st) l)∧aP q F w w' (fV st l)∧
   ((gP st l≠0∧E=.returned (.tuple #[.pointer none,.int .i64 (gP st l)]))∨(gP st l=0∧∃p G,E=.returned (.tuple #[.pointer (some ⟨p,0,none⟩),.int .i64 0])∧Wk p q G w' l false∧∀g,G g→w.heap.size≤g)):=by
 have HR:=hide (kI q F w st 0 h (fun f=>Nat.le_trans (hs.1.1 f) (by decide)) (Nat.le_trans hs.1.2.1 (by decide)))
 have HK:=hide h
 have HS:=hide hs
 cases hon:st.on with
 |false=>
  obtain⟨l,hl⟩:=Wl.akn 0 0 (Wl.hld st)
  have e1:gP st l=6:=by unfold gP;rw[if_pos hon]
  have e2:fV st l=st:=by unfold fV;rw[if_pos hon]
  have E1:=hide e1
  have E2:=hide e2
  have HL:=hide hl
  have er:mR st 0=6:=by unfold mR;rw[if_pos hon]
  rw[er]at HR
  clear h hs hon e1 e2 hl er
  go_enter Tryz.func107,Tryz.ntmps107
  go_wp2_with fail
  refine HR.out.mono ?_
  rintro E w1 ⟨v,rfl,own,aF⟩
  obtain⟨a,c,hv,_,_⟩:=own.is.shape
  subst hv
  have PS:=hide (aP.same HK.out aF)
  clear own aF HR
  go_wp2
  go_ret2
  exact⟨l,HL,by rw[E2.out];exact PS.out,.inl ⟨by rw[E1.out];decide,by rw[E1.out];rfl⟩⟩
 |true=>
  obtain⟨er,ee⟩:=auN hon
  rw[er,ee]at HR
  have hlen:=atG hs
  have HO:=hide hon
  clear h hs er ee
  go_enter Tryz.func107,Tryz.ntmps107
  go_wp2_with fail
  refine HR.out.mono ?_
  rintro E w1 ⟨v,rfl,own,aF⟩
  have HW:=hide (ank v (Wl.hld st) w1 own.is (by omega))
  obtain⟨a,c,hv,_,_⟩:=own.is.shape
  have K1:=hide (HK.out.below aF)
  subst hv
  have bH:=aF.size
  clear own HR
  go_wp2_with fail
  refine HW.out.mono ?_
  rintro E w2 ⟨l,vc,ve,rs,rfl,L2,ap,aB,LG⟩
  obtain⟨W,hW,szW,lM,bW⟩:=ay w2 #[.pointer (some ⟨q,0,none⟩),.bool false,vc,ve] 154
  have fA:=aB.size
  have hv:WkV w2.heap.size q W l false vc ve rs:=⟨bW,(L2.below lM).bz (Nat.zero_le _)⟩
  have ge:∀g,(g=w2.heap.size∨LB vc ve rs g)→w.heap.size≤g:=by
   rintro g (e|e)
   ·omega
   ·have:=L2.ge g e
    omega
  have b0W:Below w.heap.size w W:=(aF.trans (aB.mono aF.size)).trans (lM.mono (by omega))
  have HLen:=hide (aer w2.heap.size q W l false vc ve rs hv)
  have hle:(Wl.aW l).length≤(Wl.hld st).length:=LG.out.2.1.length_le
  obtain⟨x1,y1,mg,_,_⟩:=hv.log.r.row.row.shape
  obtain⟨x2,y2,hve,_,_⟩:=hv.log.r.en.is.shape
  have HV:=hide hv
  have GE:=hide ge
  subst mg hve
  clear L2 ap aB lM bW hv ge HW
  obtain⟨z,hz⟩:∃z,(Wl.aW l).length=z:=⟨_,rfl⟩
  rw[hz]at HLen hle
  have HZ:=hide hz
  clear hz
  go_wp2_with fail
  refine HLen.out.mono ?_
  rintro E w3 ⟨rfl,m,rfl⟩
  have fH:=below_drewN b0W m
  have K3:=hide (HK.out.below fH)
  have W3:Hid (Wk w2.heap.size q (fun g=>g=w2.heap.size∨LB _ _ rs g) (W.drewN m) l false):=hide (Wk.below ⟨_,_,rs,HV.out,rfl⟩ (below_drewN (Below.refl _ _) m))
  by_cases hq:(Wl.hld st).length=z
  ·have e1:gP st l=0:=by unfold gP Wl.bT;rw[if_neg (by rw[HO.out];decide),if_pos (by rw[HZ.out];exact hq)]
   have e2:fV st l=st:=by unfold fV Wl.bT;rw[if_neg (by rw[HO.out];decide),if_pos (by rw[HZ.out];exact hq)]
   have E1:=hide e1
   have E2:=hide e2
   have hb:(((Wl.hld st).length:Int)==(z:Int))=true:=by simp[hq]
   have B3:=hide fH
   clear e1 e2 HLen fH K1
   go_wp2
   go_ret2
   exact⟨l,LG,by rw[E2.out];exact aP.same HK.out B3.out,.inr ⟨E1.out,_,_,rfl,W3.out,GE.out⟩⟩
  ·have hb:(((Wl.hld st).length:Int)==(z:Int))=false:=by simp;omega
   have HL2:=hide (show Calls Tryz.prog 154 #[.pointer (some ⟨w2.heap.size,0,none⟩)] (W.drewN m) fun E w'=>E=.returned (.int .i64 z)∧∃n,w'=W.drewN n from by
    have:=aer w2.heap.size q (W.drewN m) l false _ _ rs ⟨by have:=HV.out.blk;exact this,HV.out.log.below (below_drewN (Below.refl _ _) m)⟩
    rw[HZ.out]at this
    refine this.mono ?_
    rintro E w' ⟨rfl,n,rfl⟩
    exact⟨rfl,m+n,by rw[World.drewN_drewN]⟩)
   clear HLen fH K1 K3 W3
   go_wp2_with fail
   refine HL2.out.mono ?_
   rintro E w4 ⟨rfl,n,rfl⟩
   have nI:=below_drewN b0W n
   have W4:Wk w2.heap.size q (fun g=>g=w2.heap.size∨LB _ _ rs g) (W.drewN n) l false:=Wk.below ⟨_,_,rs,HV.out,rfl⟩ (below_drewN (Below.refl _ _) n)
   have K4:=HK.out.below nI
   have HT:=hide (alN q F (W.drewN n) st (z:Int) K4 HS.out)
   obtain⟨t1,t2⟩:=axn HO.out hle hq
   rw[t1,t2]at HT
   have e1:gP st l=(Wl.bT st z).1:=by unfold gP;rw[if_neg (by rw[HO.out];decide),HZ.out]
   have e2:fV st l=(Wl.bT st z).2:=by unfold fV;rw[if_neg (by rw[HO.out];decide),HZ.out]
   rw[←e1,←e2]at HT
   have e01:gP st l=0∨gP st l=6:=by rw[e1];exact azW st z
   have HB4:=hide nI
   have HW4:=hide W4
   have HK4:=hide K4
   clear e1 e2 t1 t2 HL2 nI K4 W4
   go_wp2_with fail
   refine HT.out.mono ?_
   rintro E w5 ⟨rfl,PS⟩
   have P0:=hide (aP.pre HB4.out PS)
   have W5:Hid (Wk w2.heap.size q (fun g=>g=w2.heap.size∨LB _ _ rs g) w5 l false):=hide (by
    obtain⟨F',_,ho,_⟩:=PS
    exact HW4.out.out ho (oC HW4.out HK4.out))
   generalize hoe:gP st l=oe at*
   have HOE:=hide hoe
   clear PS HT HB4 hoe
   rcases e01 with rfl|rfl
   ·go_wp2
    go_ret2
    exact⟨l,LG,P0.out,.inr ⟨HOE.out,_,_,rfl,W5.out,GE.out⟩⟩
   ·go_wp2
    go_ret2
    exact⟨l,LG,P0.out,.inl ⟨by rw[HOE.out];decide,by rw[HOE.out];rfl⟩⟩
def ald (s:Wl.Ws):Prop:=Big 90000000 700000 s.d
theorem ald.big {s:Wl.Ws}(h:ald s):Big 100000000 800000 s.d:=Big.mono h (by decide) (by decide)
theorem amU (p q:Nat)(F:Nat→Prop)(w:World)(s:Wl.Ws)(h:WW p q F w s)(hs:ald s):
  Calls Tryz.prog 120 #[.pointer (some ⟨p,0,none⟩)] w fun E w'=>E=.returned (.int .i64 (Wl.ahu s).1)∧ja p q F w w' (Wl.ahu s).2:=by
 have HR:=hide (yA p q F w s h)
 have HH:=hide h
 have hb:=hs.big
 unfold Wl.ahu
 cases ha:Wl.ask s with
 |true=>
  simp only[if_true]
  clear h hs
  go_enter Tryz.func120,Tryz.ntmps120
  go_wp2_with fail
  refine HR.out.mono ?_
  rintro E w1 (⟨_,rfl,J⟩|⟨h0,_⟩)
  ·have J:=hide J
   go_wp2
   go_ret
   exact⟨rfl,J.out⟩
  ·rw[ha]at h0
   cases h0
 |false=>
  simp only[Bool.false_eq_true,if_false]
  obtain⟨F1,G1,h1,h2,rfl⟩:=h
  have HS:=hide (nT q F1 w s.d h1 (fun f=>Nat.le_trans (hb.1.1 f) (by decide)) (Nat.le_trans hb.1.2.1 (by decide)) hb.2 (Nat.lt_of_le_of_lt hb.1.2.2 (by decide)))
  obtain⟨vc,ve,rs,hv,rfl⟩:=h2
  have c0:w.cell? ⟨p,0,none⟩=some (.pointer (some ⟨q,0,none⟩)):=ai hv.blk 0 rfl
  have h2:Hid (Wk p q (fun g=>g=p∨LB vc ve rs g) w s.l s.bk):=hide ⟨vc,ve,rs,hv,rfl⟩
  have H1:=hide h1
  have e01:=mJ s.d
  have HD:Hid (∀x:Int,(x=0∨x=6)→(x==6)=decide (x≠0)):=hide (fun x hx=>by rcases hx with rfl|rfl<;>rfl)
  clear h1 hs hb hv
  go_enter Tryz.func120,Tryz.ntmps120
  go_wp2_with fail
  refine HR.out.mono ?_
  rintro E w1 (⟨h0,_⟩|⟨_,rfl,rfl⟩)
  ·rw[ha]at h0
   cases h0
  clear HR
  go_wp2_with fail
  refine HS.out.mono ?_
  rintro E w2 ⟨rfl,PS⟩
  obtain⟨F2,k1,k2,k3,k4⟩:=WW.disk H1.out h2.out PS
  have HE:=hide (ad1 p q _ w2 ⟨(Dm.sync s.d).2,s.l,s.bk⟩ (Dm.sync s.d).1 ⟨F2,_,k1,k2,rfl⟩)
  simp only at HE
  rw[HD.out _ e01]at HE
  have K3:=hide k3
  have K4:=hide k4
  clear PS k1 k2 k3 k4 HS h2 H1 HD
  go_wp2_with fail
  refine HE.out.mono ?_
  rintro E w3 ⟨rfl,J⟩
  have J:=hide (ja.trans (K3.out.mono fun g hg=>.inl (Or.inl hg)) (fun g hg=>by
   rcases hg with hg|hg
   ·rcases K4.out g hg with e|e
    ·exact .inl (.inl e)
    ·exact .inr e
   ·exact .inl (.inr hg)) J)
  go_wp2
  go_ret
  exact⟨rfl,J.out⟩
theorem azD {st:Dm.Ds}{f n:Nat}(hf4:f<4)(ho:st.on=true)(hn:n≤(Rst.hf f st).length):(Dm.bg st f n).1=0∨(Dm.bg st f n).1=6:=by
 unfold Dm.bg
 have h4:¬Dm.iV (f:Int)=false:=by unfold Dm.iV;simp;omega
 rw[if_neg (by simp[ho]),if_neg h4,if_neg ?_]
 ·split
  ·exact .inr rfl
  ·exact .inl rfl
 ·intro h
  unfold Rst.hf at hn
  simp only[Int.toNat_natCast]at h
  omega
theorem akV (g0 g1 g2 p q:Nat)(F:Nat→Prop)(w:World)(st:Dm.Ds)(f n:Int)(h0:w.cell? ⟨g0,0,none⟩=some (.pointer (some ⟨p,0,none⟩)))(h1:w.cell? ⟨g1,0,none⟩=some (.int .i64 f))(h2:w.cell? ⟨g2,0,none⟩=some (.int .i64 n))(hp:w.cell? ⟨p,0,none⟩=some (.pointer (some ⟨q,0,none⟩)))(h:Pk q F w st)(hs:Big 100000000 800000 st)(hn:∀g,g=g0∨g=g1∨g=g2∨g=p→g<w.heap.size∧¬F g):
  Calls Tryz.prog 157 #[.pointer (some ⟨g0,0,none⟩),.pointer (some ⟨g1,0,none⟩),.pointer (some ⟨g2,0,none⟩)] w fun E w'=>E=.returned (.int .i64 (Dm.bg st f n).1)∧aP q F w w' (Dm.bg st f n).2:=by
 have HC:Hid (∀m,Calls Tryz.prog 142 #[.pointer (some ⟨q,0,none⟩),.int .i64 f,.int .i64 n] (w.drewN m) fun E w'=>E=.returned (.int .i64 (Dm.bg st f n).1)∧aP q F w w' (Dm.bg st f n).2):=hide fun m=>by
  have hb:Below w.heap.size w (w.drewN m):=below_drewN (Below.refl _ _) m
  refine(adu q F (w.drewN m) st f n (h.below hb) (fun f=>Nat.le_trans (hs.1.1 f) (by decide)) (Nat.le_trans hs.1.2.1 (by decide)) hs.2 (Nat.lt_of_le_of_lt hs.1.2.2 (by decide))).mono ?_
  rintro E w' ⟨rfl,k⟩
  exact⟨rfl,aP.trans (Out.of_below hb) (fun g hg=>.inl hg) k⟩
 have HK:Hid (∀w',aP q F w w' (Dm.bg st f n).2→w'.cell? ⟨g0,0,none⟩=some (.pointer (some ⟨p,0,none⟩))∧w'.cell? ⟨g1,0,none⟩=some (.int .i64 f)∧w'.cell? ⟨g2,0,none⟩=some (.int .i64 n)∧w'.cell? ⟨p,0,none⟩=some (.pointer (some ⟨q,0,none⟩))):=hide (by
  rintro w' ⟨_,_,k,_⟩
  have e:∀g,g=g0∨g=g1∨g=g2∨g=p→w'.cell? ⟨g,0,none⟩=w.cell? ⟨g,0,none⟩:=fun g hg=>by have:=k.block g (hn g hg).1 (hn g hg).2;simp[World.cell?,this]
  exact⟨(e g0 (by simp)).trans h0,(e g1 (by simp)).trans h1,(e g2 (by simp)).trans h2,(e p (by simp)).trans hp⟩)
 clear h hs hn
 go_enter Tryz.func157,Tryz.ntmps157
 go_wp2
 go_region_held3 (fun w'=>w'.cell? ⟨g0,0,none⟩=some (.pointer (some ⟨p,0,none⟩))∧w'.cell? ⟨g1,0,none⟩=some (.int .i64 f)∧w'.cell? ⟨g2,0,none⟩=some (.int .i64 n)∧w'.cell? ⟨p,0,none⟩=some (.pointer (some ⟨q,0,none⟩))) (first|exact⟨h0,h1,h2,hp⟩|exact⟨i0,i1,i2,ip⟩|go_keep)
  (first
  |(go_at_call 142;refine(HC.out 1).mono ?_;rintro E w' ⟨rfl,k⟩;obtain⟨i0,i1,i2,ip⟩:=HK.out _ k;have K:=hide k;clear k))
 go_wp2
 go_ret
 exact⟨rfl,K.out⟩
theorem aev (p q:Nat)(F:Nat→Prop)(w:World)(st:Dm.Ds)(f n:Nat)(cs:Array Value)(h:Pk q F w st)(hs:Big 90000000 700000 st)(hp:w.heap[p]? =some (.cells cs 60 (0,0)))(hc:cs[0]? =some (.pointer (some ⟨q,0,none⟩)))(hpF:¬F p)(hf4:f<4)(ho:st.on=true)(hn:n≤(Rst.hf f st).length):
  Calls Tryz.prog 110 #[.pointer (some ⟨p,0,none⟩),.int .i64 f,.int .i64 (Rst.hf f st).length,.int .i64 n] w fun E w'=>E=.returned (.int .i64 (Rst.bT f st n).1)∧aP q F w w' (Rst.bT f st n).2:=by
 have qf:∀(fn:Fn) (first cap:Array Value) (w:World),(Instr.makeFunc fn first cap).run Tryz.prog w=.ok (.func fn first cap) w:=fun _ _ _ _=>rfl
 have hpl:=aA hp
 obtain⟨w1,hw1,s1,b1,P1⟩:=ay w #[.pointer (some ⟨p,0,none⟩)] 186
 obtain⟨w2,hw2,s2,b2,P2⟩:=ay w1 #[.int .i64 (f:Int)] 3
 obtain⟨w3,hw3,s3,b3,P3⟩:=ay w2 #[.int .i64 (n:Int)] 3
 obtain⟨w4,hw4,s4,b4,P4⟩:=ay w3 #[.func (.func 157) #[] #[.pointer (some ⟨w.heap.size,0,none⟩),.pointer (some ⟨w.heap.size+1,0,none⟩),.pointer (some ⟨w.heap.size+2,0,none⟩)],.func (.func 138) #[.pointer (some ⟨q,0,none⟩)] #[]] 134
 have z2:w2.heap.size=w.heap.size+2:=by omega
 have z3:w3.heap.size=w.heap.size+3:=by omega
 have z4:w4.heap.size=w.heap.size+4:=by omega
 rw[s1]at P2
 rw[z2]at P3
 rw[z3]at P4
 have fH:Below w.heap.size w w3:=b1.trans ((b2.mono (by omega)).trans (b3.mono (by omega)))
 have nI:Below w.heap.size w w4:=fH.trans (b4.mono (by omega))
 have c3p:w3.cell? ⟨p,0,none⟩=some (.pointer (some ⟨q,0,none⟩)):=ai ((fH.block p hpl).trans hp) 0 hc
 have c3n:w3.cell? ⟨w.heap.size+2,0,none⟩=some (.int .i64 n):=ai P3 0 rfl
 have c3m:w3.cell? ⟨w.heap.size,0,none⟩=some (.pointer (some ⟨p,0,none⟩)):=ai ((b3.block _ (by omega)).trans ((b2.block _ (by omega)).trans P1)) 0 rfl
 have hs':Big 100000000 800000 st:=hs.mono (by decide) (by decide)
 have hs2:=zz hs f n
 have e1:=azD hf4 ho hn
 have e2:=mJ (Dm.bg st f n).2
 have hF:∀g,F g→g<w.heap.size:=h.lt
 have hN:∀g,g=w.heap.size∨g=w.heap.size+1∨g=w.heap.size+2∨g=p→g<w4.heap.size∧¬F g:=by
  rintro g (rfl|rfl|rfl|rfl)
  ·exact⟨by omega,fun e=>by have:=hF _ e;omega⟩
  ·exact⟨by omega,fun e=>by have:=hF _ e;omega⟩
  ·exact⟨by omega,fun e=>by have:=hF _ e;omega⟩
  ·exact⟨by omega,hpF⟩
 have C1:=akV w.heap.size (w.heap.size+1) (w.heap.size+2) p q F w4 st f n (ai ((b4.block _ (by omega)).trans ((b3.block _ (by omega)).trans ((b2.block _ (by omega)).trans P1))) 0 rfl) (ai ((b4.block _ (by omega)).trans ((b3.block _ (by omega)).trans P2)) 0 rfl) (ai ((b4.block _ (by omega)).trans P3) 0 rfl) (ai ((nI.block p hpl).trans hp) 0 hc) (h.below nI) hs' hN
 have C2:∀W G,Pk q G W (Dm.bg st f n).2→Calls Tryz.prog 138 #[.pointer (some ⟨q,0,none⟩)] W fun E w'=>E=.returned (.int .i64 (Dm.sync (Dm.bg st f n).2).1)∧aP q G W w' (Dm.sync (Dm.bg st f n).2).2:=fun W G k=>
  nT q G W _ k (fun f=>Nat.le_trans (hs2.1.1 f) (by decide)) (Nat.le_trans hs2.1.2.1 (by decide)) hs2.2 (Nat.lt_of_le_of_lt hs2.1.2.2 (by decide))
 by_cases hL:(Rst.hf f st).length=n
 ·have ht:Rst.bT f st n=(0,st):=by unfold Rst.bT;rw[if_pos hL]
  rw[ht]
  have R:=hide (aP.same h fH)
  have hL':((((Rst.hf f st).length:Nat):Int)==(n:Int))=true:=by simp[hL]
  generalize (((Rst.hf f st).length:Nat):Int)=L at hL'⊢
  clear hL ht C1 C2 hN e1 e2 hs2 hs' b1 b2 b3 b4 fH nI P1 P2 P3 P4 hF hn h hs hp hw4 s2 s3 s4 z4
  go_enter Tryz.func110,Tryz.ntmps110
  go_wp2
  go_ret
  exact⟨rfl,R.out⟩
 ·have hL':((((Rst.hf f st).length:Nat):Int)==(n:Int))=false:=by simp;omega
  have RUN:Run (w.heap.size+3) (fun e W=>e=(Rst.bT f st n).1∧aP q F w W (Rst.bT f st n).2) [.func (.func 157) #[] #[.pointer (some ⟨w.heap.size,0,none⟩),.pointer (some ⟨w.heap.size+1,0,none⟩),.pointer (some ⟨w.heap.size+2,0,none⟩)],.func (.func 138) #[.pointer (some ⟨q,0,none⟩)] #[]] w4:=by
   unfold Rst.bT
   rw[if_neg hL]
   refine Run.cons (enters_of Tryz.func157 (by kernel_rfl) rfl) (by simp) (C1.mono ?_)
   rintro E W ⟨rfl,F1,k1,k2,k3⟩
   refine⟨_,rfl,k2.block _ (by omega) fun e=>by have:=hF _ e;omega,?_⟩
   rcases e1 with e1|e1
   ·refine .inr ⟨e1,Run.cons (enters_of Tryz.func138 (by kernel_rfl) rfl) (by simp) ((C2 W F1 k1).mono ?_)⟩
    rintro E W2 ⟨rfl,k⟩
    have hne:¬F1 (w.heap.size+3):=fun e=>by
     rcases k3 _ e with e|e
     ·have:=hF _ e;omega
     ·omega
    have J:aP q F w W2 (Dm.sync (Dm.bg st f n).2).2:=aP.pre nI (aP.trans k2 k3 k)
    have hsz:=k2.size
    refine⟨_,rfl,?_,?_⟩
    ·obtain⟨_,_,k,_⟩:=k
     exact k.block _ (by omega) hne
    rw[if_neg (by simp[e1])]
    rcases e2 with e2|e2
    ·rw[if_neg (by simp[e2])]
     exact .inr ⟨e2,rfl,J⟩
    ·rw[if_pos (by simp[e2])]
     exact .inl ⟨by rw[e2];decide,e2,J⟩
   ·rw[if_pos (by simp[e1])]
    exact .inl ⟨by rw[e1];decide,e1,aP.pre nI ⟨F1,k1,k2,k3⟩⟩
  have HO:=hide (oz (w.heap.size+3) 2 _ w4 _ rfl (by omega) P4 RUN)
  generalize (((Rst.hf f st).length:Nat):Int)=L at hL'⊢
  clear hL C1 C2 hN e1 e2 hs2 hs' b1 b2 b3 b4 fH nI P1 P2 P3 P4 hF hn h hs hp s2 s3 s4 z4 RUN
  go_enter Tryz.func110,Tryz.ntmps110
  go_wp2_with fail
  refine HO.out.mono ?_
  rintro E W ⟨e,rfl,rfl,k⟩
  have K:=hide k
  clear k HO
  go_wp2
  go_ret
  exact⟨rfl,K.out⟩
theorem ahl (p q:Nat)(F:Nat→Prop)(w:World)(st:Dm.Ds)(h:Pk q F w st)(hs:Big 90000000 700000 st)(hp:w.cell? ⟨p,0,none⟩=some (.pointer (some ⟨q,0,none⟩)))(ho:st.on=true):
  Calls Tryz.prog 114 #[.pointer (some ⟨p,0,none⟩)] w fun E w'=>∃ss,E=.returned (.int .i64 (Orp.secs ss).length)∧Hid (Orp.Sn 0 (Rst.hf 3 st) ss)∧Below w.heap.size w w':=by
 have hr:mV st 3=Rst.hf 3 st:=by unfold mV;rw[if_neg (by simp[ho]),if_neg (by decide)];rfl
 have hl:(Rst.hf 3 st).length≤1000000000:=by
  have:=Dm.kD st.wait (st.sure 3) 3
  have:=hs.1.1 3
  unfold Rst.hf
  omega
 have R1:=hide (kI q F w st 3 h (fun f=>Nat.le_trans (hs.1.1 f) (by decide)) (Nat.le_trans hs.1.2.1 (by decide)))
 have HR:=hide hr
 clear h hs hr
 go_enter Tryz.func114,Tryz.ntmps114
 go_wp2_with fail
 refine R1.out.mono ?_
 rintro E w1 ⟨v,rfl,O1,B1⟩
 rw[HR.out]at O1
 have S1:=hide (vK v _ w1 O1.is hl)
 have B1:=hide B1
 clear R1 O1
 go_wp2_with fail
 refine S1.out.mono ?_
 rintro E w2 ⟨v2,l,n,rfl,X⟩
 have X:=hide (show ∃ss,(n:Int)=((Orp.secs ss).length:Int)∧Hid (Orp.Sn 0 (Rst.hf 3 st) ss)∧Below w.heap.size w w2 from⟨jS l,by rw[X.out.2.2.1],hide X.out.2.2.2.1,B1.out.trans (X.out.2.2.2.2.mono B1.out.size)⟩)
 clear S1
 go_wp2
 go_ret
 obtain⟨ss,x1,x2,x3⟩:=X.out
 exact⟨ss,by rw[x1];rfl,x2,x3⟩
theorem zx {x:Pm.Pg}(h:Pm.Ok x)(l:List Cm.Cv)(rn b:Int):chO x (Cm.lastE 0 l) l.length rn b=Rst.snd x l rn b:=by
 obtain⟨_,h⟩:=h
 rw[Bool.eq_iff_iff,Rst.uX]
 generalize Cm.lastE 0 l=ep
 generalize (l.length:Int)=en
 unfold chO
 by_cases h4:x.p=4
 ·rw[if_pos h4]
  simp only[Bool.and_eq_true,decide_eq_true_eq]
  omega
 ·rw[if_neg h4]
  by_cases h3:x.p=3∨x.p=2
  ·rw[if_pos h3]
   simp only[Bool.and_eq_true,decide_eq_true_eq]
   omega
  ·rw[if_neg h3]
   by_cases h1:x.p=1
   ·rw[if_pos h1]
    simp only[Bool.and_eq_true,decide_eq_true_eq]
    omega
   ·rw[if_neg h1]
    simp only[Bool.and_eq_true,decide_eq_true_eq]
    omega
theorem ane (f:Nat):∀(n:Nat) (st:Dm.Ds) (bs:List Int),(Dm.wrt f n st bs).1=0∨(Dm.wrt f n st bs).1=6
 |0,_,_=>.inl rfl
 |n+1,st,bs=>by
  unfold Dm.wrt
  split
  ·exact .inl rfl
  split
  ·exact .inr rfl
  ·exact ane f n _ _
theorem aia {st:Dm.Ds}(f:Nat)(hf:f<4)(bs:List Int):(Dm.write st f bs).1=0∨(Dm.write st f bs).1=6:=by
 unfold Dm.write
 split
 ·exact .inr rfl
 rw[if_neg (by unfold Dm.iV;simp;omega)]
 exact ane _ _ _ _
theorem anr (g0 g1 p q:Nat)(F:Nat→Prop)(w:World)(st:Dm.Ds)(vb:Value)(bs:List Int)(h0:w.cell? ⟨g0,0,none⟩=some (.pointer (some ⟨p,0,none⟩)))(h1:w.cell? ⟨g1,0,none⟩=some vb)(hp:w.cell? ⟨p,0,none⟩=some (.pointer (some ⟨q,0,none⟩)))(h:Pk q F w st)(hs:Big 90000000 700000 st)(hb:Is .u8 w vb bs)(hbF:∀b,vb.ownBlock=some b→¬F b)(hl:bs.length≤1000)(hn:∀g,g=g0∨g=g1∨g=p→g<w.heap.size∧¬F g):
  Calls Tryz.prog 137 #[.pointer (some ⟨g0,0,none⟩),.pointer (some ⟨g1,0,none⟩)] w fun E w'=>E=.returned (.int .i64 (Dm.write st 1 bs).1)∧aP q F w w' (Dm.write st 1 bs).2:=by
 have HC:Hid (Calls Tryz.prog 37 #[.pointer (some ⟨q,0,none⟩),.int .i64 1,vb] w.drew fun E w'=>E=.returned (.int .i64 (Dm.write st 1 bs).1)∧aP q F w w' (Dm.write st 1 bs).2):=hide (by
  have hd:Below w.heap.size w w.drew:=(Below.refl _ _).drew
  have hc:cnt bs.length≤17:=by unfold cnt;omega
  refine(tV q F w.drew st 1 vb bs (h.below hd) (hb.below hd) (fun _=>hbF) (by omega) (by have:=hs.1.2.1;omega) hs.2 (by have:=hs.1.2.2;omega)).mono ?_
  rintro E w' ⟨rfl,k⟩
  exact⟨rfl,aP.pre hd k⟩)
 have HK:Hid (∀w',aP q F w w' (Dm.write st 1 bs).2→w'.cell? ⟨g0,0,none⟩=some (.pointer (some ⟨p,0,none⟩))∧w'.cell? ⟨g1,0,none⟩=some vb∧w'.cell? ⟨p,0,none⟩=some (.pointer (some ⟨q,0,none⟩))):=hide (by
  rintro w' ⟨_,_,k,_⟩
  have e:∀g,g=g0∨g=g1∨g=p→w'.cell? ⟨g,0,none⟩=w.cell? ⟨g,0,none⟩:=fun g hg=>by have:=k.block g (hn g hg).1 (hn g hg).2;simp[World.cell?,this]
  exact⟨(e g0 (by simp)).trans h0,(e g1 (by simp)).trans h1,(e p (by simp)).trans hp⟩)
 clear h hs hn hb hbF hl
 go_enter Tryz.func137,Tryz.ntmps137
 go_wp2_with fail
 go_region_held3 (fun w'=>w'.cell? ⟨g0,0,none⟩=some (.pointer (some ⟨p,0,none⟩))∧w'.cell? ⟨g1,0,none⟩=some vb∧w'.cell? ⟨p,0,none⟩=some (.pointer (some ⟨q,0,none⟩))) (first|exact⟨h0,h1,hp⟩|exact⟨i0,i1,ip⟩|go_keep)
  (first
  |(go_at_call 37;refine HC.out.mono ?_;rintro E w' ⟨rfl,k⟩;obtain⟨i0,i1,ip⟩:=HK.out _ k;have K:=hide k;clear k))
 go_wp2
 go_ret
 exact⟨rfl,K.out⟩
theorem ajG (w:World)(t:TypeId)(x a:Value):∃V,(w.alloc (.cells #[x] t)).setCell ⟨w.heap.size,0,none⟩ a=V∧w.alloc (.cells #[a] t)=V∧V.heap.size=w.heap.size+1∧Below w.heap.size w V∧V.heap[w.heap.size]? =some (.cells #[a] t (0,0)):=by
 obtain⟨V,h1,h2,h3,h4⟩:=ay w #[a] t
 refine⟨V,?_,h1,h2,h3,h4⟩
 rw[←h1]
 simp[go_sem]
theorem aqW (p q:Nat)(F:Nat→Prop)(w:World)(st:Dm.Ds)(off:Bool)(y x:Pm.Pg)(vw vr vs:Value)(en:Int)(h:Pk q F w st)(hs:Big 50000000 500000 st)(hb:w.heap[p]? =some (.cells (fw q off y vw en vr vs) 60 (0,0)))(hpF:¬F p)(hx:Pm.Ok x)(hm:ib w):
  Calls Tryz.prog 81 #[.pointer (some ⟨p,0,none⟩),vp x] w fun E w'=>E=.returned (.int .i64 (Rst.ext st 1 (Fm.dh (Pm.enc x))).1)∧∃F',Pk q F' w' (Rst.ext st 1 (Fm.dh (Pm.enc x))).2∧w'.heap[p]? =some (.cells (fw q off (if (Rst.ext st 1 (Fm.dh (Pm.enc x))).1=0 then x else y) vw en vr vs) 60 (0,0))∧Out (fun g=>F g∨g=p) w w'∧∀g,F' g→F g∨w.heap.size≤g:=by
 have qf:∀(fn:Fn) (first cap:Array Value) (w:World),(Instr.makeFunc fn first cap).run Tryz.prog w=.ok (.func fn first cap) w:=fun _ _ _ _=>rfl
 have hpl:=aA hb
 have hF:∀g,F g→g<w.heap.size:=h.lt
 obtain⟨bs,hbs⟩:∃bs,Fm.dh (Pm.enc x)=bs:=⟨_,rfl⟩
 rw[hbs]
 have p8:=hide hbs
 clear hbs
 obtain⟨⟨ee,d'⟩,hex⟩:∃ex,Rst.ext st 1 bs=ex:=⟨_,rfl⟩
 rw[hex]
 simp only
 have HEX:=hide hex
 clear hex
 obtain⟨w1,hw1,s1,b1,P1⟩:=ay w #[.pointer (some ⟨p,0,none⟩)] 25
 obtain⟨w2,hw2,s2,b2,P2⟩:=ay w1 (cp x) 41
 have z2:w2.heap.size=w.heap.size+2:=by omega
 rw[s1]at P2
 have b02:Below w.heap.size w w2:=b1.trans (b2.mono (by omega))
 have P12:=(b2.block w.heap.size (by omega)).trans P1
 unfold cp at hw2 P2
 obtain⟨c0,c1,c2,c3,c4,c5⟩:=bO P2
 have EN:=hide (ak1 x w2 (agL hx) (hm.below b02))
 unfold vp at EN⊢
 rw[Pm.iD hx,lC hx]at EN
 have hel:=Pm.qG hx
 have X0:=hide (And.intro P12 (And.intro P2 b02))
 have HH:=hide (And.intro h (And.intro hs (And.intro hb hm)))
 clear h hs hb hm b1 b2 P1 P2 P12 s2 b02
 go_enter Tryz.func81,Tryz.ntmps81
 go_wp2_with fail
 refine EN.out.mono ?_
 rintro E w3 ⟨vb,rfl,o3,b3⟩
 have FA:=hide (aaR (.slice none 0 0) vb [] (Pm.enc x) w3 (Is.nil _ _) o3.is (by simp) (by omega))
 have axH:ape (Pm.enc x)=0:=by unfold ape;rw[if_pos (by omega)]
 have awr:apd [] (Pm.enc x)=bs:=by unfold apd;rw[if_pos (by omega)];exact p8.out
 rw[axH,awr]at FA
 have B3:=hide b3
 clear EN o3 b3 axH awr
 go_wp2_with fail
 refine FA.out.mono ?_
 rintro E w4 ⟨v4,rfl,o4,b4⟩
 obtain⟨ao,ln,lc,hv⟩:=o4.is.form
 subst hv
 clear FA
 obtain⟨p1,p2,b02⟩:=X0.out
 obtain⟨h,hs,hb,hm⟩:=HH.out
 have b3:=B3.out
 have z3:=b3.size
 have z4:=b4.size
 have b24:Below w2.heap.size w2 w4:=b3.trans (b4.mono (by omega))
 obtain⟨w5,kL,aBH,s5,b5,P5⟩:=ajG w4 71 (.slice none 0 0) (.slice ao ln lc)
 obtain⟨w6,uz,s6,b6,P6⟩:=ay w5 #[.func (.func 137) #[] #[.pointer (some ⟨w.heap.size,0,none⟩),.pointer (some ⟨w4.heap.size,0,none⟩)],.func (.func 138) #[.pointer (some ⟨q,0,none⟩)] #[]] 134
 rw[s5]at P6
 have b26:Below w2.heap.size w2 w6:=b24.trans ((b5.mono (by omega)).trans (b6.mono (by omega)))
 have b06:Below w.heap.size w w6:=b02.trans (b26.mono (by omega))
 have o6:Own .u8 5 w3.heap.size w6 (.slice ao ln lc) bs:=(o4.below b5).below b6
 have hfl:bs.length≤1000:=by
  rw[←p8.out]
  have h2:Vm.sz (Pm.enc x).length≤1:=Vm.tH 0 _ (by omega)
  rw[Fm.jF]
  omega
 have hs2:=mo hs 1 bs
 have hcn:cnt bs.length≤17:=by unfold cnt;omega
 have e1:(Dm.write st 1 bs).1=0∨(Dm.write st 1 bs).1=6:=aia (st:=st) 1 (by omega) bs
 have e2:=mJ (Dm.write st 1 bs).2
 have C1:=anr w.heap.size w4.heap.size p q F w6 st (.slice ao ln lc) bs (ai ((b26.block _ (by omega)).trans p1) 0 rfl) (ai ((b6.block _ (by omega)).trans P5) 0 rfl) (ai ((b06.block p hpl).trans hb) 0 rfl) (h.below b06) (hs.mono (by decide) (by decide)) o6.is (fun b e k=>by have:=(o6.2.lt b e).1;have:=hF b k;omega) hfl (by
  rintro g (rfl|rfl|rfl)
  ·exact⟨by omega,fun e=>by have:=hF _ e;omega⟩
  ·exact⟨by omega,fun e=>by have:=hF _ e;omega⟩
  ·exact⟨by omega,hpF⟩)
 have C2:∀W G,Pk q G W (Dm.write st 1 bs).2→Calls Tryz.prog 138 #[.pointer (some ⟨q,0,none⟩)] W fun E w'=>E=.returned (.int .i64 (Dm.sync (Dm.write st 1 bs).2).1)∧aP q G W w' (Dm.sync (Dm.write st 1 bs).2).2:=fun W G k=>
  nT q G W _ k (fun f=>Nat.le_trans (hs2.1.1 f) (by omega)) (Nat.le_trans hs2.1.2.1 (by omega)) hs2.2 (Nat.lt_of_le_of_lt hs2.1.2.2 (by omega))
 have RUN:Run (w4.heap.size+1) (fun e W=>e=(Rst.ext st 1 bs).1∧aP q F w6 W (Rst.ext st 1 bs).2) [.func (.func 137) #[] #[.pointer (some ⟨w.heap.size,0,none⟩),.pointer (some ⟨w4.heap.size,0,none⟩)],.func (.func 138) #[.pointer (some ⟨q,0,none⟩)] #[]] w6:=by
  unfold Rst.ext
  refine Run.cons (enters_of Tryz.func137 (by kernel_rfl) rfl) (by simp) (C1.mono ?_)
  rintro E W ⟨rfl,F1,k1,k2,k3⟩
  refine⟨_,rfl,k2.block _ (by omega) fun e=>by have:=hF _ e;omega,?_⟩
  show(_∧_=(if (Dm.write st 1 bs).1≠0 then _ else _:Int×Dm.Ds).1∧aP q F w6 W (if (Dm.write st 1 bs).1≠0 then _ else _:Int×Dm.Ds).2)∨_
  rcases e1 with e1|e1
  ·refine .inr ⟨e1,Run.cons (enters_of Tryz.func138 (by kernel_rfl) rfl) (by simp) ((C2 W F1 k1).mono ?_)⟩
   rintro E W2 ⟨rfl,k⟩
   have hne:¬F1 (w4.heap.size+1):=fun e=>by
    rcases k3 _ e with e|e
    ·have:=hF _ e;omega
    ·omega
   have J:aP q F w6 W2 (Dm.sync (Dm.write st 1 bs).2).2:=aP.trans k2 k3 k
   have hsz:=k2.size
   refine⟨_,rfl,?_,?_⟩
   ·obtain⟨_,_,k,_⟩:=k
    exact k.block _ (by omega) hne
   show(_∧_=(if (Dm.write st 1 bs).1≠0 then _ else _:Int×Dm.Ds).1∧aP q F w6 W2 (if (Dm.write st 1 bs).1≠0 then _ else _:Int×Dm.Ds).2)∨(_∧_=(if (Dm.write st 1 bs).1≠0 then _ else _:Int×Dm.Ds).1∧aP q F w6 W2 (if (Dm.write st 1 bs).1≠0 then _ else _:Int×Dm.Ds).2)
   rw[if_neg (by simp[e1])]
   rcases e2 with e2|e2
   ·rw[if_neg (by simp[e2])]
    exact .inr ⟨e2,rfl,J⟩
   ·rw[if_pos (by simp[e2])]
    exact .inl ⟨by rw[e2];decide,e2,J⟩
  ·rw[if_pos (by simp[e1])]
   exact .inl ⟨by rw[e1];decide,e1,⟨F1,k1,k2,k3⟩⟩
 rw[HEX.out]at RUN
 simp only at RUN
 have HO:=hide (oz (w4.heap.size+1) 2 _ w6 _ rfl (by omega) P6 RUN)
 have e5p:w5.cell? ⟨p,0,none⟩=some (.pointer (some ⟨q,0,none⟩)):=ai ((b5.block p (by omega)).trans ((b24.block p (by omega)).trans ((b02.block p hpl).trans hb))) 0 rfl
 have e5s:w5.cell? ⟨w.heap.size,0,none⟩=some (.pointer (some ⟨p,0,none⟩)):=ai ((b5.block _ (by omega)).trans ((b24.block _ (by omega)).trans p1)) 0 rfl
 have y6:=(b06.block p hpl).trans hb
 have t6:=(b26.block _ (by omega)).trans p1
 have u6:=(b26.block _ (by omega)).trans p2
 have FX:Hid ((p<w6.heap.size∧w.heap.size+1<w6.heap.size)∧(w6.heap[p]? =some (.cells (fw q off y vw en vr vs) 60 (0,0))∧w6.heap[w.heap.size]? =some (.cells #[.pointer (some ⟨p,0,none⟩)] 25 (0,0))∧w6.heap[w.heap.size+1]? =some (.cells #[.int .i64 x.e,.int .u8 x.r,.int .i64 x.a,.int .u8 x.p,.int .i64 x.f,.int .i64 x.b] 41 (0,0)))∧Below w.heap.size w w6):=hide ⟨⟨by omega,by omega⟩,⟨y6,t6,u6⟩,b06⟩
 clear RUN C1 C2 e1 e2 hs2 hcn hfl o6 o4 P5 P6 p1 p2 b02 b3 b4 b24 b26 b06 y6 t6 u6 hb hm h hs X0 B3 s6
 go_wp2_with fail
 refine HO.out.mono ?_
 rintro E W ⟨e,rfl,rfl,F1,k1,k2,k3⟩
 obtain⟨⟨l1,l2⟩,⟨y6,t6,u6⟩,b06⟩:=FX.out
 have y7:=(k2.block p l1 hpF).trans y6
 have t7:=(k2.block w.heap.size (by omega) fun e=>by have:=hF _ e;omega).trans t6
 have u7:=(k2.block (w.heap.size+1) l2 fun e=>by have:=hF _ e;omega).trans u6
 have hz:=b06.size
 have o7:Out F w W:=(Out.of_below b06).trans k2 fun g hg=>.inl hg
 have n7:∀g,F1 g→F g∨w.heap.size≤g:=fun g hg=>(k3 g hg).imp id fun e=>by omega
 by_cases he:e=0
 ·subst he
  obtain⟨Z,hZ,PZ,gZ,fr⟩:=ah6 y7 x
  obtain⟨_,_,q2,q3,q4,q5,q6,q7,_⟩:=kH y7
  have f2:=fr 2;have f3:=fr 3;have f4:=fr 4;have f5:=fr 5;have f6:=fr 6;have f7:=fr 7
  have s7:=ai t7 0 rfl
  obtain⟨r0,r1,r2,r3,r4,r5⟩:=bO u7
  have hFp:¬F1 p:=fun e=>by
   rcases n7 p e with e|e
   ·exact hpF e
   ·omega
  have oZ:Out (fun g=>g=p) W Z:=Out.aT gZ fun i hi=>by simpa using hi.symm
  have R:Hid (∃F',Pk q F' Z d'∧Z.heap[p]? =some (.cells (fw q off x vw en vr vs) 60 (0,0))∧Out (fun g=>F g∨g=p) w Z∧∀g,F' g→F g∨w.heap.size≤g):=hide ⟨F1,k1.agree fun g hg=>oZ.block g (k1.lt g hg) fun e=>hFp (e▸hg),PZ,(Out.mono (G:=fun g=>F g∨g=p) o7 fun g hg=>Or.inl (Or.inl hg)).trans oZ fun g hg=>Or.inl (Or.inr hg),n7⟩
  clear k1 k2 k3 y6 t6 u6 y7 t7 u7 b06 o7 n7 gZ PZ fr oZ hFp HO FX HH hF hpF
  go_wp2
  go_ret
  exact⟨rfl,R.out⟩
 ·have he':(e==0)=false:=by simpa using he
  have R:Hid (∃F',Pk q F' W d'∧W.heap[p]? =some (.cells (fw q off y vw en vr vs) 60 (0,0))∧Out (fun g=>F g∨g=p) w W∧∀g,F' g→F g∨w.heap.size≤g):=hide ⟨F1,k1,y7,Out.mono (G:=fun g=>F g∨g=p) o7 fun g hg=>Or.inl (Or.inl hg),n7⟩
  clear k1 k2 k3 y6 t6 u6 y7 t7 u7 b06 o7 n7 HO FX HH hF hpF
  go_wp2
  go_ret
  exact⟨rfl,R.out⟩
end Go.Proofs.YtpifdeoepppadaaGreatDoor

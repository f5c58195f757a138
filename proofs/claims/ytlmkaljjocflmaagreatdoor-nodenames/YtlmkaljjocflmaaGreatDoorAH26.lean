/- Texts of one layer, one behind the other. -/
import Derived.Test.YtlmkaljjocflmaaGreatDoorAH23
import Derived.Test.YtlmkaljjocflmaaGreatDoorAH2
import Derived.Test.YtlmkaljjocflmaaGreatDoorAH25
import Derived.Test.YtlmkaljjocflmaaGreatDoorAH12
import Derived.Test.YtlmkaljjocflmaaGreatDoorAH7
import Derived.Test.YtlmkaljjocflmaaGreatDoorAH3
import Derived.Test.YtlmkaljjocflmaaGreatDoorAH5
import Derived.Test.YtlmkaljjocflmaaGreatDoorAH24
import Derived.Test.YtlmkaljjocflmaaGreatDoorAH11
import Derived.Test.YtlmkaljjocflmaaGreatDoorAH21
import Derived.Test.YtlmkaljjocflmaaGreatDoorAM3
import Derived.Test.YtlmkaljjocflmaaGreatDoorAH10
set_option maxRecDepth 100000
set_option maxHeartbeats 8000000
namespace Go.Proofs.YtlmkaljjocflmaaGreatDoor
open Go.RowKit
set_option linter.unusedVariables false
def frd (e n:Int) (l:List Bm.Ov):List Int:=if Cm.chk e n l=0 then Wl.fr ⟨e,n,l⟩else []
theorem aiU (e n:Int)(v:Value)(l:List Bm.Ov)(w:World)(h:dz w v l)(hf:fZ l)(hl:l.length≤140737488355328):
  Calls Tryz.prog 242 #[dF e n v] w fun E w'=>∃vb,E=.returned (.tuple #[vb,.int .i64 (Cm.chk e n l)])∧Own .u8 5 w.heap.size w' vb (frd e n l)∧Below w.heap.size w w':=by
 obtain⟨ao,cap,hv,_,_⟩:=h.shape
 obtain⟨w1,hw1,aT,ak,hB⟩:=au w #[.int .i64 e,.int .i64 n,v] 35
 have c0:w1.cell? ⟨w.heap.size,0,none⟩=some (.int .i64 e):=ai hB 0 rfl
 have c1:w1.cell? ⟨w.heap.size,1,none⟩=some (.int .i64 n):=ai hB 1 rfl
 have c2:w1.cell? ⟨w.heap.size,2,none⟩=some v:=ai hB 2 rfl
 have HC:=hide (afF e n v l w1 (h.below ak) hf hl)
 unfold dF at HC⊢
 rw[hv]at hw1 c2 HC⊢
 obtain⟨ch,hch⟩:∃c,Cm.chk e n l=c:=⟨_,rfl⟩
 have KC:=hide hch
 rw[hch]at HC⊢
 clear h hf hl hB hv hch
 go_enter Tryz.func242,Tryz.ntmps242
 go_wp2_with fail
 refine HC.out.mono ?_
 rintro E w2 ⟨vb,rfl,own,az⟩
 have aO:=ak.trans (az.mono ak.size)
 obtain⟨ab,cb,hvb,_,_⟩:=own.is.shape
 by_cases hc0:ch=0
 ·have hz:(Cm.out e n l).length≤430:=Cm.uY e n l
  have HF:=hide (yO (.slice none 0 0) vb [] (Cm.out e n l) w2 (Is.nil _ _) own.is (by simp) (by omega))
  have ea:zy (Cm.out e n l)=0:=by unfold zy;rw[if_pos (by omega)]
  have ed:apd [] (Cm.out e n l)=frd e n l:=by
   unfold apd frd
   rw[if_pos (by omega),if_pos (by rw[KC.out];exact hc0),Cm.jS (by rw[KC.out];exact hc0)]
   rfl
  rw[ea,ed]at HF
  subst hvb
  subst hc0
  clear own ak az ea ed hz HC
  go_wp2_with fail
  refine HF.out.mono ?_
  rintro E w3 ⟨vf,rfl,bG,aC⟩
  obtain⟨af,cf,hvf,_,_⟩:=bG.is.shape
  have O3:=hide (bG.bz (base':=w.heap.size) aO.size)
  have B3:=hide (aO.trans (aC.mono aO.size))
  subst hvf
  clear bG aC aO HF
  go_wp2
  go_ret2
  exact⟨_,rfl,O3.out,B3.out⟩
 ·have ed:frd e n l=[]:=by unfold frd;rw[if_neg (by rw[KC.out];exact hc0)]
  have ED:=hide ed
  have hne:(ch !=0)=true:=by simp[hc0]
  subst hvb
  clear own ak az ed HC
  go_wp2
  go_ret2
  exact⟨_,rfl,by rw[ED.out];exact Own.nil _ _ _ _,aO⟩
theorem yn.put {p q:Nat}{w:World}{l:List Cm.Cv}{bk:Bool}{vc ve:Value}{rs:List Cw}(h:yn p q w l bk vc ve rs)(b:Bool):yn p q (w.setCell ⟨p,1,none⟩ (.bool b)) l b vc ve rs∧Out (fun g=>g=p) w (w.setCell ⟨p,1,none⟩ (.bool b)):=by
 have ho:Out (fun g=>g=p) w (w.setCell ⟨p,1,none⟩ (.bool b)):=Out.aP (ax w ⟨p,1,none⟩ (.bool b)) fun g hg=>by simp at hg;exact hg.symm
 refine⟨⟨by rw[aG h.blk];rfl,h.log.agree fun g hg=>ho.block g (h.log.lt g hg) fun e=>?_⟩,ho⟩
 exact h.log.r.ne h.blk (by decide) (by decide) (by decide) (e▸hg)
theorem WW.flag {p q:Nat}{F:Nat→Prop}{w:World}{s:Wl.Ws}(h:WW p q F w s)(b:Bool):iG p q F w (w.setCell ⟨p,1,none⟩ (.bool b)) ⟨s.d,s.l,b⟩:=by
 obtain⟨F1,G1,h1,h2,rfl⟩:=h
 obtain⟨vc,ve,rs,hv,rfl⟩:=h2
 obtain⟨k1,k2⟩:=hv.put b
 have h2:Wk p q (fun g=>g=p∨LB vc ve rs g) w s.l s.bk:=⟨vc,ve,rs,hv,rfl⟩
 refine⟨_,⟨F1,_,h1.out k2 fun g hg e=>wW h2 h1 g (.inl e) hg,⟨vc,ve,rs,k1,rfl⟩,rfl⟩,k2.mono fun g hg=>.inl (.inr (.inl hg)),fun g hg=>.inl hg⟩
theorem wG (p q:Nat)(F:Nat→Prop)(w:World)(s:Wl.Ws)(h:WW p q F w s):
  Calls Tryz.prog 241 #[.pointer (some ⟨p,0,none⟩)] w fun E w'=>(Wl.ask s=true∧E=.returned (.int .i64 6)∧iG p q F w w' (Wl.brk s))∨(Wl.ask s=false∧E=.returned (.int .i64 0)∧w=w'):=by
 have HF:=hide (h.flag true)
 obtain⟨F1,G1,h1,h2,rfl⟩:=h
 obtain⟨vc,ve,rs,hv,rfl⟩:=h2
 have HM:=hide (nA p q w #[] _ _ _ hv.blk)
 have HO:=hide (zR q F1 w s.d h1)
 have c0:=ai hv.blk 0 rfl
 have c1:=ai hv.blk 1 rfl
 have f1:=aB hv.blk 1
 simp only[List.getElem_toArray,List.getElem_cons_zero,List.getElem_cons_succ]at c0 c1
 unfold Wl.ask
 generalize s.d.on=on at HO⊢
 generalize s.bk=bk at c1⊢
 clear hv h1
 cases bk<;>cases on
 ·go_enter Tryz.func241,Tryz.ntmps241
  go_wp2_with fail
  refine HM.out.mono ?_
  rintro E w1 ⟨rfl,rfl⟩
  go_wp2_with fail
  refine HO.out.mono ?_
  rintro E w1 ⟨rfl,rfl⟩
  go_wp2
  go_ret
  exact .inl ⟨rfl,rfl,HF.out⟩
 ·go_enter Tryz.func241,Tryz.ntmps241
  go_wp2_with fail
  refine HM.out.mono ?_
  rintro E w1 ⟨rfl,rfl⟩
  go_wp2_with fail
  refine HO.out.mono ?_
  rintro E w1 ⟨rfl,rfl⟩
  go_wp2
  go_ret
  exact .inr ⟨rfl,rfl,rfl⟩
 ·go_enter Tryz.func241,Tryz.ntmps241
  go_wp2_with fail
  refine HM.out.mono ?_
  rintro E w1 ⟨rfl,rfl⟩
  go_wp2
  go_ret
  exact .inl ⟨rfl,rfl,HF.out⟩
 ·go_enter Tryz.func241,Tryz.ntmps241
  go_wp2_with fail
  refine HM.out.mono ?_
  rintro E w1 ⟨rfl,rfl⟩
  go_wp2
  go_ret
  exact .inl ⟨rfl,rfl,HF.out⟩
theorem acg (p q:Nat)(F:Nat→Prop)(w:World)(s:Wl.Ws)(e:Int)(h:WW p q F w s):
  Calls Tryz.prog 244 #[.pointer (some ⟨p,0,none⟩),.int .i64 e] w fun E w'=>E=.returned (.int .i64 e)∧iG p q F w w' ⟨s.d,s.l,e==6⟩:=by
 have HF:=hide (h.flag (e==6))
 obtain⟨F1,G1,h1,h2,rfl⟩:=h
 obtain⟨vc,ve,rs,hv,rfl⟩:=h2
 have c1:=ai hv.blk 1 rfl
 have f1:=aB hv.blk 1
 simp only[List.getElem_toArray,List.getElem_cons_zero,List.getElem_cons_succ]at c1
 clear hv h1
 go_enter Tryz.func244,Tryz.ntmps244
 go_wp2
 go_ret
 exact⟨rfl,HF.out⟩
theorem anX (p q:Nat)(F:Nat→Prop)(w:World)(s:Wl.Ws)(h:WW p q F w s):
  Calls Tryz.prog 174 #[.pointer (some ⟨p,0,none⟩)] w fun E w'=>E=.returned (.int .i64 s.l.length)∧w=w':=by
 obtain⟨F1,G1,h1,h2,rfl⟩:=h
 obtain⟨vc,ve,rs,hv,rfl⟩:=h2
 have HM:=hide (nA p q w #[] _ _ _ hv.blk)
 have HE:=hide (kM p 2 w vc rs (ai hv.blk 2 rfl) hv.log.r.row.row)
 rw[hv.log.len]at HE
 clear hv h1
 go_enter Tryz.func174,Tryz.ntmps174
 go_wp2_with fail
 refine HM.out.mono ?_
 rintro E w1 ⟨rfl,rfl⟩
 go_wp2_with fail
 refine HE.out.mono ?_
 rintro E w1 ⟨rfl,rfl⟩
 go_wp2
 go_ret
 exact⟨rfl,rfl⟩
theorem aaN (p q:Nat)(F:Nat→Prop)(w:World)(s:Wl.Ws)(h:WW p q F w s):
  Calls Tryz.prog 112 #[.pointer (some ⟨p,0,none⟩)] w fun E w'=>E=.returned (.int .i64 (Cm.lastE 0 s.l))∧∃m,w'=w.drewN m:=by
 obtain⟨F1,G1,h1,h2,rfl⟩:=h
 obtain⟨vc,ve,rs,hv,rfl⟩:=h2
 have HM:=hide (nA p q w #[] _ _ _ hv.blk)
 have hgl:=eU hv.log.good
 have HE:=hide (aaM p 2 w vc rs (ai hv.blk 2 rfl) hv.log.r.row.row (by rw[hv.log.len];exact hgl))
 rw[hv.log.is]at HE
 clear hv h1
 go_enter Tryz.func112,Tryz.ntmps112
 go_wp2_with fail
 refine HM.out.mono ?_
 rintro E w1 ⟨rfl,rfl⟩
 go_wp2_with fail
 refine HE.out.mono ?_
 rintro E w1 ⟨rfl,m,rfl⟩
 go_wp2
 go_ret
 exact⟨rfl,m,rfl⟩
theorem alm (p q:Nat)(w:World)(l:List Cm.Cv)(bk:Bool)(vc ve:Value)(rs:List Cw)(hv:yn p q w l bk vc ve rs):
  Calls Tryz.prog 230 #[.pointer (some ⟨p,0,none⟩)] w fun E w'=>E=.returned (.int .i64 (Wl.bD l).length)∧∃m,w'=w.drewN m:=by
 have HM:=hide (nA p q w #[] _ _ _ hv.blk)
 have hgl:=eU hv.log.good
 have HE:Hid (∀n,Calls Tryz.prog 139 #[.pointer (some ⟨p,2,none⟩)] (w.drewN n) fun E w'=>E=.returned (.int .i64 l.length)∧∃m,w'=(w.drewN n).drewN m):=hide fun n=>by
  have:=kM p 2 (w.drewN n) vc rs (ai hv.blk 2 rfl) (hv.log.r.row.row.below (below_drewN (Below.refl _ _) n))
  rw[hv.log.len]at this
  exact this.mono fun E w' h=>⟨h.1,0,by rw[←h.2];rfl⟩
 have HP:Hid (∀n,Calls Tryz.prog 294 #[.pointer (some ⟨p,2,none⟩),.int .i64 l.length] (w.drewN n) fun E w'=>E=.returned (.int .i64 (Wl.bD l).length)∧∃m,w'=(w.drewN n).drewN m):=hide fun n=>by
  have:=aav p 2 (w.drewN n) ve l l.length (Nat.le_refl _) hgl (ai hv.blk 3 rfl) (hv.log.r.en.is.drewN n)
  rw[List.take_length]at this
  exact this.mono fun E w' h=>⟨h.1,0,by rw[←h.2];rfl⟩
 clear hv
 go_enter Tryz.func230,Tryz.ntmps230
 go_wp2_with fail
 refine HM.out.mono ?_
 rintro E w1 ⟨rfl,rfl⟩
 go_wp2
 go_quiet (first|(go_at_call 139;refine Calls.quiet_of (HE.out _))|(go_at_call 294;refine Calls.quiet_of (HP.out _)))
 go_wp2
 go_ret
 exact⟨rfl,_,rfl⟩
def frl (l:List Cm.Cv) (n most:Int):List Cm.Cv:=if n<1∨(l.length:Int)<n∨most<1 then []else(l.drop (n.toNat-1)).take most.toNat
theorem ajc (p q:Nat)(F:Nat→Prop)(w:World)(s:Wl.Ws)(n most:Int)(h:WW p q F w s):
  Calls Tryz.prog 63 #[.pointer (some ⟨p,0,none⟩),.int .i64 n,.int .i64 most] w fun E w'=>∃v rs,E=.returned v∧bK 35 w.heap.size w' v rs∧gP w.heap.size w' rs∧aH rs=frl s.l n most∧yw rs∧Below w.heap.size w w':=by
 obtain⟨F1,G1,h1,⟨vc,ve,rs,hv,rfl⟩,rfl⟩:=h
 have HM:=hide (nA p q w #[] _ _ _ hv.blk)
 have c2:w.cell? ⟨p,2,none⟩=some vc:=ai hv.blk 2 rfl
 have HE:=hide (kM p 2 w vc rs c2 hv.log.r.row.row)
 have hlen:=hv.log.len
 rw[hlen]at HE
 have hgl:=eU hv.log.good
 have HNO:Hid (∀W m,W=w.drewN m→n<1∨(s.l.length:Int)<n∨most<1→bK 35 w.heap.size W (.slice none 0 0) []∧gP w.heap.size W []∧aH []=frl s.l n most∧yw []∧Below w.heap.size w W):=hide fun W m hW hc=>by
  subst hW
  exact⟨bK.nil _ _ _,fun c hc=>by simp at hc,by unfold frl;rw[if_pos hc];rfl,fun i j c d _ hc=>by simp at hc,below_drewN (Below.refl _ _) m⟩
 by_cases a1:n<1
 ·clear hv h1 HE
  have NO:=hide (HNO.out w 0 rfl (.inl a1))
  clear HNO
  go_enter Tryz.func63,Tryz.ntmps63
  go_wp2_with fail
  refine HM.out.mono ?_
  rintro E w1 ⟨rfl,rfl⟩
  go_wp2
  go_ret
  exact⟨_,[],rfl,NO.out⟩
 ·by_cases a2:(s.l.length:Int)<n
  ·clear hv h1
   have NO:=hide (HNO.out w 0 rfl (.inr (.inl a2)))
   clear HNO
   go_enter Tryz.func63,Tryz.ntmps63
   go_wp2_with fail
   refine HM.out.mono ?_
   rintro E w1 ⟨rfl,rfl⟩
   go_wp2_with fail
   refine HE.out.mono ?_
   rintro E w1 ⟨rfl,rfl⟩
   go_wp2
   go_ret
   exact⟨_,[],rfl,NO.out⟩
  ·by_cases a3:most<1
   ·clear hv h1
    have NO:=hide (HNO.out w 0 rfl (.inr (.inr a3)))
    clear HNO
    go_enter Tryz.func63,Tryz.ntmps63
    go_wp2_with fail
    refine HM.out.mono ?_
    rintro E w1 ⟨rfl,rfl⟩
    go_wp2_with fail
    refine HE.out.mono ?_
    rintro E w1 ⟨rfl,rfl⟩
    go_wp2
    go_ret
    exact⟨_,[],rfl,NO.out⟩
   ·obtain⟨j,rfl⟩:∃j:Nat,n=(j:Int)+1:=⟨(n-1).toNat,by omega⟩
    obtain⟨mm,rfl⟩:∃mm:Nat,most=mm:=⟨most.toNat,by omega⟩
    have hj:j<rs.length:=by omega
    have hfr:frl s.l ((j:Int)+1) mm=(s.l.drop j).take mm:=by
     unfold frl
     rw[if_neg (by omega)]
     congr 2
    obtain⟨b0,off,cap0,dD,hcap,hcm,_,_⟩:=hv.log.r.row.row.full (by omega)
    obtain⟨v1,hs1,ath⟩:=hv.log.r.row.row.iN Tryz.adJ Tryz.adp j hj
    have hv1:v1=.slice (some ⟨b0,off+j*3,none⟩) (rs.length-j) (cap0-j):=by
     have:=hs1 w
     rw[dD,run_slice_l w 22 _ rs.length cap0 Tryz.adJ .i64 _ (by omega) (by omega),Tryz.adp]at this
     have hne:¬cap0=j:=by omega
     simp[Result.andThen,sliced,hne,gq]at this
     exact this.symm
    obtain⟨m,hm⟩:∃m,m=min mm (rs.length-j):=⟨_,rfl⟩
    have hm1:1≤m:=by omega
    have amd:m≤(rs.drop j).length:=by rw[List.length_drop];omega
    obtain⟨v2,hs2,ahm⟩:=ath.kY Tryz.adJ Tryz.adp m amd
    have hv2:v2=.slice (some ⟨b0,off+j*3,none⟩) m (cap0-j):=by
     have:=hs2 w
     rw[hv1,run_slice_h w 22 _ (rs.length-j) (cap0-j) Tryz.adJ .i64 _ (by omega) (by rw[List.length_drop]at amd;omega),Tryz.adp]at this
     simp[Result.andThen,sliced,Addr.add]at this
     exact this.symm
    obtain⟨rest,hrest⟩:∃rest,rest=(rs.drop j).take m:=⟨_,rfl⟩
    have hrl:rest.length=m:=by rw[hrest,List.length_take];omega
    have hcv:aH rest=(s.l.drop j).take mm:=by
     rw[hrest,aH,List.map_take,List.map_drop,←aH,hv.log.is,hm]
     rw[hlen]
     apply List.ext_getElem?
     intro i
     rw[List.getElem?_take,List.getElem?_take]
     by_cases hi:i<min mm (s.l.length-j)
     ·rw[if_pos hi,if_pos (by omega)]
     ·rw[if_neg hi]
      by_cases hi2:i<mm
      ·rw[if_pos hi2,List.getElem?_drop,List.getElem?_eq_none (by omega)]
      ·rw[if_neg hi2]
    have hin:∀c∈rest,c∈rs:=fun c hc=>List.mem_of_mem_drop (List.mem_of_mem_take (hrest▸hc))
    have axw:Hid (∀W,Below w.heap.size w W→∀c∈rest,dz W c.v c.l∧c.l.length*40≤140737488351232):=hide fun W hb c hc=>⟨((hv.log.r.kr c (hin c hc)).is).below hb,by have:=((amW hv.log.good hv.log.is).2 c (hin c hc)).2.2;omega⟩
    have HCL:Hid (Calls Tryz.prog 140 #[v2] w fun e w'=>∃g cap,e=.returned (.slice (some ⟨g,0,none⟩) m cap)∧m≤cap∧Fst w w' g m cap rest 0 rest):=hide (by
     refine(ahE v2 rest w (by rw[hrest];exact ahm) (fun c hc=>(hv.log.r.kr c (hin c hc)).is.one) (by rw[hrl];omega)).mono ?_
     rintro E w' ⟨v,rfl,own,aK⟩
     rcases own.2 with⟨_,h0⟩|⟨g,cap,cur,hvv,_,_,hc,_⟩
     ·omega
     ·refine⟨g,cap,by rw[hvv,hrl],by omega,by rw[←hrl,←hvv];exact own,hrl,rfl,fun c hc=>by simp at hc,rfl,fun i j c d _ hc=>by simp at hc,aK⟩)
    have hwr:IntKind.i64.wrap (((j:Int)+1)-1)=(j:Int):=by rw[aS _ (by omega) (by omega)];omega
    have hne0:¬cap0=j:=by omega
    rw[hv2]at HCL
    rw[dD]at c2
    rw[hlen]at c2 hm hcap
    have FIN:Hid (∀W g cap rk,Fst w W g m cap rest m rk→bK 35 w.heap.size W (.slice (some ⟨g,0,none⟩) m cap) rk∧gP w.heap.size W rk∧aH rk=frl s.l ((j:Int)+1) mm∧yw rk∧Below w.heap.size w W):=hide fun W g cap rk hF=>by
     have ht:rk.take m=rk:=List.take_of_length_le (by rw[hF.len];omega)
     have h1:=hF.kr
     have h2:=hF.ap
     rw[ht]at h1 h2
     exact⟨hF.row,h1,by rw[hF.is,hcv,hfr],h2,hF.aK⟩
    have HRL:=hide hrl
    have hj':j<s.l.length:=by omega
    have hm3:m≤1048576:=by omega
    clear hv h1 HNO ath ahm hv1 hv2 hs1 hs2 hrest hcv hfr hrl hin amd dD hj hcm
    clear hlen
    have atl:Hid (∀z:Nat,z=m→Calls Tryz.prog 140 #[.slice (some ⟨b0,off+j*3,none⟩) z (cap0-j)] w fun e w'=>∃g cap,e=.returned (.slice (some ⟨g,0,none⟩) m cap)∧m≤cap∧Fst w w' g m cap rest 0 rest):=hide fun z hz=>by rw[hz];exact HCL.out
    have HMM:=hide hm
    clear HCL hm
    go_enter Tryz.func63,Tryz.ntmps63
    go_wp2_with fail
    refine HM.out.mono ?_
    rintro E w1 ⟨rfl,rfl⟩
    go_wp2_with fail
    refine HE.out.mono ?_
    rintro E w1 ⟨rfl,rfl⟩
    go_wp2_with fail
    all_goals
     refine(atl.out _ (by rw[HMM.out];omega)).mono ?_
     rintro E w1 ⟨g,cap,rfl,hcp,F0⟩
     have F0:=hide F0
     clear atl HM HE
     go_wp2
     go_loopw [47] (fun iv wr=>∃(k:Nat) (rk:List Cw),k≤m∧iv=.int .i64 k∧Hid (Fst w wr g m cap rest k rk)) (fun iv _=>m-(intOf iv).toNat)
     case atStart=>exact⟨0,rest,by omega,rfl,F0⟩
     case round=>
      obtain⟨k,rk,hk,rfl,vS⟩:=hrel
      by_cases hlt:k<m
      ·obtain⟨c,hc⟩:∃c,rest[k]? =some c:=⟨rest[k]'(by rw[HRL.out];omega),by rw[List.getElem?_eq_getElem]⟩
       have hcm:=List.mem_of_getElem? hc
       have hrk:rk[k]? =some c:=by
        have e1:(rk.drop k)[0]? =(rest.drop k)[0]? :=by rw[vS.out.left]
        rw[List.getElem?_drop,List.getElem?_drop]at e1
        simpa using e1.trans (by simpa using hc)
       obtain⟨⟨d0,d1,d2⟩,_⟩:=agy vS.out.row vS.out.len k c hrk
       obtain⟨wa,hwa,axs,sza,afe,bA,x0,x1,x2⟩:=gG wr 35 (.int .i64 0) (.int .i64 0) (.slice none 0 0) (.int .i64 c.e) (.int .i64 c.n) c.v
       obtain⟨nV,hlo⟩:=axw.out wr vS.out.aK c hcm
       have CP:Hid (Calls Tryz.prog 64 #[.agg #[.int .i64 c.e,.int .i64 c.n,c.v]] wa fun E w2=>∃v2,E=.returned (.agg #[.int .i64 c.e,.int .i64 c.n,v2])∧(∃a n z,v2=.slice a n z)∧(∃W,((w2.setCell ⟨g,k*3,none⟩ (.int .i64 c.e)).setCell ⟨g,k*3+1,none⟩ (.int .i64 c.n)).setCell ⟨g,k*3+2,none⟩ v2=W∧∃rk',Fst w W g m cap rest (k+1) rk')∧(w2.cell? ⟨g,k*3,none⟩=some (.int .i64 c.e)∧w2.cell? ⟨g,k*3+1,none⟩=some (.int .i64 c.n)∧w2.cell? ⟨g,k*3+2,none⟩=some c.v)∧(w2.frozen? ⟨g,k*3,none⟩=false∧w2.frozen? ⟨g,k*3+1,none⟩=false∧w2.frozen? ⟨g,k*3+2,none⟩=false)):=hide (by
        refine(uX c.e c.n c.v c.l wa (nV.below afe) hlo).mono ?_
        rintro E w2 ⟨v2,rfl,aY,az⟩
        have b2:Below wr.heap.size wr w2:=afe.trans (az.mono afe.size)
        have hrow2:bK 35 w.heap.size w2 (.slice (some ⟨g,0,none⟩) m cap) rk:=vS.out.row.below b2
        obtain⟨W,hW,oW,gW⟩:=amI hrow2 vS.out.len k hlt ⟨c.e,c.n,v2,c.l⟩
        obtain⟨y,z⟩:=agy hrow2 vS.out.len k c hrk
        exact⟨v2,rfl,(by obtain⟨xa,xc,hx,_⟩:=aY.is.shape;exact⟨_,_,_,hx⟩),⟨W,hW,_,vS.out.next hc hlt (aY.bz afe.size) b2 oW gW⟩,y,z⟩)
       obtain⟨ca,cc,hcv,_,_⟩:=nV.shape
       rw[hcv]at d2 hwa axs x2 CP
       have hlt':(k:Int)<m:=by omega
       clear vS nV hlo hrk afe bA hc hcm
       go_wp2_with fail
       refine CP.out.mono ?_
       rintro E w2 ⟨v2,rfl,⟨a2,n2,z2,rfl⟩,⟨W,hW,rk2,F2⟩,⟨y0,y1,y2⟩,⟨f0,f1,f2⟩⟩
       have F2:=hide F2
       clear CP
       go_wp2
       go_roundw
       case rel=>exact⟨k+1,rk2,by omega,by go_num,F2⟩
       case measure=>simp[intOf];omega
      ·obtain rfl:k=m:=by omega
       have hlt':¬(k:Int)<k:=by omega
       have G:=hide (FIN.out _ g cap rk vS.out)
       clear vS
       go_wp2
       go_ret
       first
       |exact⟨_,rk,rfl,G.out⟩
       |exact⟨_,rfl,rk,G.out⟩
theorem aap (st:Dm.Ds):(Dm.sync st).1=0∨(Dm.sync st).1=6:=by
 unfold Dm.sync
 split
 ·exact .inr rfl
 split
 ·exact .inr rfl
 ·exact .inl rfl
theorem aaG:∀(n:Nat) (st:Dm.Ds) (bs:List Int),(Dm.wrt 0 n st bs).1=0∨(Dm.wrt 0 n st bs).1=6
 |0,_,_=>.inl rfl
 |n+1,st,bs=>by
  unfold Dm.wrt
  split
  ·exact .inl rfl
  split
  ·exact .inr rfl
  ·exact aaG n _ _
theorem abK {st:Dm.Ds}(bs:List Int):(Dm.write st 0 bs).1=0∨(Dm.write st 0 bs).1=6:=by
 unfold Dm.write
 split
 ·exact .inr rfl
 rw[if_neg (by decide)]
 exact aaG _ _ _
def ahH (s:Wl.Ws):Prop:=Big 90000000 700000 s.d
theorem ahH.big {s:Wl.Ws}(h:ahH s):Big 100000000 800000 s.d:=Big.mono h (by decide) (by decide)
theorem aj1 (p q:Nat)(F:Nat→Prop)(w:World)(s:Wl.Ws)(h:WW p q F w s)(hs:ahH s):
  Calls Tryz.prog 184 #[.pointer (some ⟨p,0,none⟩)] w fun E w'=>E=.returned (.int .i64 (Wl.ae6 s).1)∧iG p q F w w' (Wl.ae6 s).2:=by
 have HR:=hide (wG p q F w s h)
 have HH:=hide h
 have hb:=hs.big
 unfold Wl.ae6
 cases ha:Wl.ask s with
 |true=>
  simp only[if_true]
  clear h hs
  go_enter Tryz.func184,Tryz.ntmps184
  go_wp2_with fail
  refine HR.out.mono ?_
  rintro E w1 (⟨_,rfl,J⟩|⟨h0,_⟩)
  ·have J:=hide J
   go_wp2
   go_ret
   exact⟨rfl,J.out⟩
  ·rw[ha]at h0
   cases h0
 |false=>
  simp only[Bool.false_eq_true,if_false]
  obtain⟨F1,G1,h1,h2,rfl⟩:=h
  have HS:=hide (adX q F1 w s.d h1 (fun f=>Nat.le_trans (hb.1.1 f) (by decide)) (Nat.le_trans hb.1.2.1 (by decide)) hb.2 (Nat.lt_of_le_of_lt hb.1.2.2 (by decide)))
  obtain⟨vc,ve,rs,hv,rfl⟩:=h2
  have c0:w.cell? ⟨p,0,none⟩=some (.pointer (some ⟨q,0,none⟩)):=ai hv.blk 0 rfl
  have h2:Hid (Wk p q (fun g=>g=p∨LB vc ve rs g) w s.l s.bk):=hide ⟨vc,ve,rs,hv,rfl⟩
  have H1:=hide h1
  have e01:=aap s.d
  have HD:Hid (∀x:Int,(x=0∨x=6)→(x==6)=decide (x≠0)):=hide (fun x hx=>by rcases hx with rfl|rfl<;>rfl)
  clear h1 hs hb hv
  go_enter Tryz.func184,Tryz.ntmps184
  go_wp2_with fail
  refine HR.out.mono ?_
  rintro E w1 (⟨h0,_⟩|⟨_,rfl,rfl⟩)
  ·rw[ha]at h0
   cases h0
  clear HR
  go_wp2_with fail
  refine HS.out.mono ?_
  rintro E w2 ⟨rfl,PS⟩
  obtain⟨F2,k1,k2,k3,k4⟩:=WW.disk H1.out h2.out PS
  have HE:=hide (acg p q _ w2 ⟨(Dm.sync s.d).2,s.l,s.bk⟩ (Dm.sync s.d).1 ⟨F2,_,k1,k2,rfl⟩)
  simp only at HE
  rw[HD.out _ e01]at HE
  have K3:=hide k3
  have K4:=hide k4
  clear PS k1 k2 k3 k4 HS h2 H1 HD
  go_wp2_with fail
  refine HE.out.mono ?_
  rintro E w3 ⟨rfl,J⟩
  have J:=hide (iG.trans (K3.out.mono fun g hg=>.inl (Or.inl hg)) (fun g hg=>by
   rcases hg with hg|hg
   ·rcases K4.out g hg with e|e
    ·exact .inl (.inl e)
    ·exact .inr e
   ·exact .inl (.inr hg)) J)
  go_wp2
  go_ret
  exact⟨rfl,J.out⟩
theorem wX {r:List Int}{n:Nat}{e:Int}(h:Fm.Rd [] r n e):e=5∧r=[]∧n=0:=by
 rcases h with⟨_,_,_,h⟩|⟨h1,h2,h3,_⟩
 ·have h1:=(Fm.ru h).2.2
  have h2:=Vm.rT r.length
  simp at h1
  omega
 ·exact⟨h1,h2,h3⟩
theorem ahy (vb:Value)(w:World)(hb:Is .u8 w vb []):
  Calls Tryz.prog 65 #[vb] w fun E w'=>E=.returned (.tuple #[.agg #[.int .i64 0,.int .i64 0,.slice none 0 0],.int .i64 0,.bool false])∧Below w.heap.size w w':=by
 obtain⟨w1,hw1,s1,b1,P1⟩:=au w #[.int .i64 0,.int .i64 0,.slice none 0 0] 52
 have HB:=hide P1
 have HF:=hide (qm vb [] w1 (hb.below b1) (by simp))
 have B1:=hide b1
 obtain⟨ao,cap,hvb,_,_⟩:=hb.shape
 subst hvb
 clear hb P1 b1
 go_enter Tryz.func65,Tryz.ntmps65
 go_wp2_with fail
 refine HF.out.mono ?_
 rintro E w2 ⟨v2,r,n,e,rfl,aY,az,R2⟩
 have B2:=(az.block _ (aA HB.out)).trans HB.out
 have RR:=hide (B1.out.trans (az.mono (by omega)))
 obtain⟨rfl,rfl,rfl⟩:=wX R2.out
 obtain⟨o1,k1,hv1,_,_⟩:=aY.is.shape
 subst hv1
 have z0:w2.cell? ⟨w.heap.size,0,none⟩=some (.int .i64 0):=ai B2 0 rfl
 have z1:w2.cell? ⟨w.heap.size,1,none⟩=some (.int .i64 0):=ai B2 1 rfl
 have z2:w2.cell? ⟨w.heap.size,2,none⟩=some (.slice none 0 0):=ai B2 2 rfl
 have u0:w2.setCell ⟨w.heap.size,0,none⟩ (.int .i64 0)=w2:=aM B2 (j:=0) rfl
 have u1:w2.setCell ⟨w.heap.size,1,none⟩ (.int .i64 0)=w2:=aM B2 (j:=1) rfl
 have u2:w2.setCell ⟨w.heap.size,2,none⟩ (.slice none 0 0)=w2:=aM B2 (j:=2) rfl
 have f0:=aB B2 0;have f1:=aB B2 1;have f2:=aB B2 2
 clear B2 R2 HB HF B1 az aY
 go_wp2
 refine bodyPost_ret (v:=.tuple #[.agg #[.int .i64 0,.int .i64 0,.slice none 0 0],.int .i64 0,.bool false]) (by simp[results,Tryz.results65,go_sem,z0,z1,z2]) rfl ?_
 exact⟨rfl,RR.out⟩
theorem aaH (vb:Value)(bs:List Int)(w:World)(hb:Is .u8 w vb bs)(h0:bs=[]):
  Calls Tryz.prog 22 #[vb] w fun E w'=>E=.returned (.tuple #[.slice none 0 0,.int .i64 0])∧Below w.heap.size w w':=by
 obtain⟨n,hn⟩:∃n:Nat,n=0:=⟨0,rfl⟩
 have hl:bs.length≤1000:=by simp[h0]
 have hle:n≤bs.length:=by omega
 have HN:=hide hn
 obtain⟨vs,hsl,gy⟩:=hb.iN Tryz.ak1 Tryz.alB n hle
 have HF:=hide (ahy vs w (by rw[h0,List.drop_nil]at gy;exact gy))
 obtain⟨ba,bc,hvb,_,_⟩:=hb.shape
 clear hb gy hn h0
 subst hvb
 go_enter Tryz.func22,Tryz.ntmps22
 go_wp2
 go_loopw [4,5,6] (fun lv ev gv wr=>lv=.slice none 0 0∧ev=.int .i64 0∧gv=.int .i64 n∧wr=w) (fun _ _ _ _=>0)
 case atStart=>exact⟨rfl,rfl,by rw[HN.out];rfl,rfl⟩
 case round=>
  obtain⟨rfl,rfl,rfl,hwr⟩:=hrel
  subst hwr
  go_wp2_with fail
  refine HF.out.mono ?_
  rintro E wa ⟨rfl,ba'⟩
  obtain⟨V,hV,sV,bV,PV⟩:=au wa #[.int .i64 0,.int .i64 0,.slice none 0 0] 52
  have BA:=hide (ba'.trans (bV.mono ba'.size))
  have c0:V.cell? ⟨wa.heap.size,0,none⟩=some (.int .i64 0):=ai PV 0 rfl
  have c1:V.cell? ⟨wa.heap.size,1,none⟩=some (.int .i64 0):=ai PV 1 rfl
  have c2:V.cell? ⟨wa.heap.size,2,none⟩=some (.slice none 0 0):=ai PV 2 rfl
  have u0:V.setCell ⟨wa.heap.size,0,none⟩ (.int .i64 0)=V:=aM PV (j:=0) rfl
  have u1:V.setCell ⟨wa.heap.size,1,none⟩ (.int .i64 0)=V:=aM PV (j:=1) rfl
  have u2:V.setCell ⟨wa.heap.size,2,none⟩ (.slice none 0 0)=V:=aM PV (j:=2) rfl
  have f0:=aB PV 0;have f1:=aB PV 1;have f2:=aB PV 2
  clear HF hsl ba' bV PV sV
  go_wp2
  go_ret2
  exact⟨by rw[HN.out];rfl,BA.out⟩
theorem aeo (p q:Nat)(F:Nat→Prop)(w:World)(st:Dm.Ds)(h:Pk q F w st)(hs:Big 90000000 700000 st)(hp:w.cell? ⟨p,0,none⟩=some (.pointer (some ⟨q,0,none⟩)))(ho:st.on=true)(he:Rst.hf 3 st=[]):
  Calls Tryz.prog 180 #[.pointer (some ⟨p,0,none⟩)] w fun E w'=>E=.returned (.int .i64 0)∧Below w.heap.size w w':=by
 have hr:qz st 3=Rst.hf 3 st:=by unfold qz;rw[if_neg (by simp[ho]),if_neg (by decide)];rfl
 have R1:=hide (mV q F w st 3 h (fun f=>Nat.le_trans (hs.1.1 f) (by decide)) (Nat.le_trans hs.1.2.1 (by decide)))
 rw[hr]at R1
 have HE:=hide he
 clear h hs hr he
 go_enter Tryz.func180,Tryz.ntmps180
 go_wp2_with fail
 refine R1.out.mono ?_
 rintro E w1 ⟨v,rfl,O1,B1⟩
 have S1:=hide (aaH v _ w1 O1.is HE.out)
 have B1:=hide B1
 clear R1 O1
 go_wp2_with fail
 refine S1.out.mono ?_
 rintro E w2 ⟨rfl,b2⟩
 have X:=hide (B1.out.trans (b2.mono B1.out.size))
 clear S1 b2
 go_wp2
 go_ret
 exact⟨rfl,X.out⟩
theorem acG {n:Nat}(h:n≤433):cnt n≤7:=by
 unfold cnt
 omega
theorem avd {p q N:Nat}{F1:Nat→Prop}{w w':World}{d:Dm.Ds}{l l':List Cm.Cv}{bk:Bool}{vc ve zO ve':Value}{rs rs':List Cw}(h1:Pk q F1 w d)(hv:yn p q w l bk vc ve rs)
  (hB:w'.heap[p]? =some (.cells #[.pointer (some ⟨q,0,none⟩),.bool bk,zO,ve'] 196 (0,0))) (hL:Lw 0 w' l' zO ve' rs') (ho:Out (fun g=>g=p∨LB vc ve rs g) w w') (hs:∀g,LB zO ve' rs' g→LB vc ve rs g∨N≤g) (hN:N≤w.heap.size):
  ∃F',WW p q F' w' ⟨d,l',bk⟩∧Out (fun g=>F1 g∨g=p∨LB vc ve rs g) w w'∧∀g,F' g→(F1 g∨g=p∨LB vc ve rs g)∨N≤g:=by
 have h2:Wk p q (fun g=>g=p∨LB vc ve rs g) w l bk:=⟨vc,ve,rs,hv,rfl⟩
 refine⟨_,⟨F1,_,h1.out ho fun g hg e=>wW h2 h1 g e hg,⟨zO,ve',rs',⟨hB,hL⟩,rfl⟩,rfl⟩,ho.mono fun g hg=>.inl (.inr hg),?_⟩
 rintro g (e|e|e)
 ·exact .inl (.inl e)
 ·exact .inl (.inr (.inl e))
 ·rcases hs g e with e|e
  ·exact .inl (.inr (.inr e))
  ·exact .inr e
theorem af3 (p q:Nat)(F:Nat→Prop)(w:World)(s:Wl.Ws)(c:Cw)(h:WW p q F w s)(hs:ahH s)(hi:dz w c.v c.l)(hf:fZ c.l)(h64:In64 c.e∧In64 c.n)(hlo:c.l.length*40≤140737488351232)(jH:0<c.l.length→∀b,c.v.ownBlock=some b→¬F b):
  Calls Tryz.prog 183 #[.pointer (some ⟨p,0,none⟩),dF c.e c.n c.v] w fun E w'=>E=.returned (.int .i64 (Wl.lI s c.c).1)∧iG p q F w w' (Wl.lI s c.c).2:=by
 obtain⟨ao,cap,hcv,_,_⟩:=hi.shape
 obtain⟨w1,hw1,aT,ak,hB0⟩:=au w #[.int .i64 c.e,.int .i64 c.n,c.v] 35
 have c0:w1.cell? ⟨w.heap.size,0,none⟩=some (.int .i64 c.e):=ai hB0 0 rfl
 have c1:w1.cell? ⟨w.heap.size,1,none⟩=some (.int .i64 c.n):=ai hB0 1 rfl
 have c2:w1.cell? ⟨w.heap.size,2,none⟩=some c.v:=ai hB0 2 rfl
 have hW1:=h.below ak
 have HR:=hide (wG p q F w1 s hW1)
 have hb:=hs.big
 have HLT:=hide h.lt
 have HCF:=hide jH
 clear jH
 unfold dF
 rw[hcv]at hw1 c2⊢
 cases ha:Wl.ask s with
 |true=>
  have e1:Wl.lI s c.c=(6,Wl.brk s):=by unfold Wl.lI;rw[ha];rfl
  rw[e1]
  have B1:=hide ak
  clear h hs hi hf h64 hlo hB0 hcv hW1 e1 hb
  go_enter Tryz.func183,Tryz.ntmps183
  go_wp2_with fail
  refine HR.out.mono ?_
  rintro E w2 (⟨_,rfl,J⟩|⟨h0,_⟩)
  ·have J:=hide (iG.pre B1.out J)
   go_wp2
   go_ret
   exact⟨rfl,J.out⟩
  ·rw[ha]at h0
   cases h0
 |false=>
  have HFR:=hide (aiU c.e c.n c.v c.l w1 (hi.below ak) hf (by omega))
  unfold dF at HFR
  rw[hcv]at HFR
  obtain⟨ch,hch⟩:∃x,Cm.chk c.e c.n c.l=x:=⟨_,rfl⟩
  rw[hch]at HFR
  have KC:=hide hch
  have uy:=hide hcv
  have IOX:=hide hi
  have WA:=hide hW1
  have FO:=hide (show fZ c.l∧(In64 c.e∧In64 c.n)∧c.l.length*40≤140737488351232 from⟨hf,h64,hlo⟩)
  have HB:=hide hB0
  have B1:=hide ak
  have BG:=hide hb
  have HS:=hide hs
  clear h hs hi hf h64 hlo hW1 hch hcv hb
  go_enter Tryz.func183,Tryz.ntmps183
  go_wp2_with fail
  refine HR.out.mono ?_
  rintro E w2 (⟨h0,_⟩|⟨_,rfl,rfl⟩)
  ·rw[ha]at h0
   cases h0
  clear HR
  go_wp2_with fail
  refine HFR.out.mono ?_
  rintro E w2 ⟨vb,rfl,own,az⟩
  have W2:=WA.out.below az
  have b02:=B1.out.trans (az.mono B1.out.size)
  have dm:=az.size
  have hB2:=(az.block w.heap.size (by omega)).trans HB.out
  have d0:w2.cell? ⟨w.heap.size,0,none⟩=some (.int .i64 c.e):=ai hB2 0 rfl
  have d1:w2.cell? ⟨w.heap.size,1,none⟩=some (.int .i64 c.n):=ai hB2 1 rfl
  have d2:w2.cell? ⟨w.heap.size,2,none⟩=some c.v:=ai hB2 2 rfl
  rw[uy.out]at d2
  obtain⟨ab,cb,hvb,_,_⟩:=own.is.shape
  have OB:=hide own
  have HB2:=hide hB2
  have xR:=hide b02
  have HW2:=hide W2
  clear WA own az HFR hB2 c0 c1 c2
  by_cases hc0:ch=0
  ·subst hc0
   have hfr:frd c.e c.n c.l=Wl.fr c.c:=by unfold frd;rw[if_pos KC.out];rfl
   have hfl:(frd c.e c.n c.l).length≤433:=by rw[hfr];exact Wl.mi KC.out
   obtain⟨F1,G1,h1,h2,hF⟩:=HW2.out
   obtain⟨vc,ve,rs,hv,hG⟩:=h2
   have hgl:=eU hv.log.good
   have p0:w2.cell? ⟨p,0,none⟩=some (.pointer (some ⟨q,0,none⟩)):=ai hv.blk 0 rfl
   obtain⟨ans,dM⟩:∃x,tk s.l c.c=x:=⟨_,rfl⟩
   have hpw:p<w2.heap.size:=aA hv.blk
   have TK:Hid (∀W,Below w2.heap.size w2 W→Calls Tryz.prog 243 #[.pointer (some ⟨p,2,none⟩),.agg #[.int .i64 c.e,.int .i64 c.n,.slice ao c.l.length cap]] W fun E w'=>E=.returned (.bool ans)∧Below w2.heap.size w2 w'):=hide fun W hbW=>by
    have:=ai8 p 2 W vc rs (ai ((hbW.block p hpw).trans hv.blk) 2 rfl) (hv.log.r.row.row.below hbW) (by rw[hv.log.len];exact hgl) c ((IOX.out.below xR.out).below hbW) FO.out.2.1.1 FO.out.2.1.2 FO.out.1 FO.out.2.2
    unfold dF at this
    rw[uy.out,hv.log.is,dM]at this
    refine this.mono ?_
    rintro E w' ⟨rfl,hb'⟩
    exact⟨rfl,hbW.trans (hb'.mono hbW.size)⟩
   have HA:=hide dM
   have HV:=hide hv
   have H1:=hide h1
   have HFF:=hide hF
   have HGG:=hide hG
   subst hvb
   clear dM hv h1 hF hG
   go_wp2_with fail
   go_region_held3 (fun w'=>w'.cell? ⟨w.heap.size,0,none⟩=some (.int .i64 c.e)∧w'.cell? ⟨w.heap.size,1,none⟩=some (.int .i64 c.n)∧w'.cell? ⟨w.heap.size,2,none⟩=some (.slice ao c.l.length cap)∧w'.cell? ⟨p,0,none⟩=some (.pointer (some ⟨q,0,none⟩))) (first|exact⟨d0,d1,d2,p0⟩|exact⟨e0,e1,e2,p1⟩|go_keep)
    (first
    |(go_at_call 243;refine(TK.out _ ((Below.refl _ _).drew)).mono ?_;rintro E w3 ⟨rfl,aC⟩;have e0:=(aC.cell (p:=⟨w.heap.size,0,none⟩) (show w.heap.size<w2.heap.size by omega)).trans d0;have e1:=(aC.cell (p:=⟨w.heap.size,1,none⟩) (show w.heap.size<w2.heap.size by omega)).trans d1;have e2:=(aC.cell (p:=⟨w.heap.size,2,none⟩) (show w.heap.size<w2.heap.size by omega)).trans d2;have p1:=(aC.cell (p:=⟨p,0,none⟩) hpw).trans p0))
   have iw:=xR.out.trans (aC.mono xR.out.size)
   have bJ:=aC.size
   have HV3:Hid (yn p q w3 s.l s.bk vc ve rs):=hide ⟨(aC.block p hpw).trans HV.out.blk,HV.out.log.below aC⟩
   have K3:=hide (H1.out.below aC)
   have O3:=hide (OB.out.below aC)
   have HB3:=hide ((aC.block w.heap.size (by omega)).trans HB2.out)
   clear HV H1 OB HB2 TK d0 d1 d2 p0
   cases ans with
   |false=>
    have e4:Wl.lI s c.c=(15,s):=by
     unfold Wl.lI
     rw[ha,if_neg (by decide),if_neg (by intro hx;exact hx KC.out),if_pos ?_]
     have:=HA.out
     unfold tk at this
     rw[decide_eq_false_iff_not]at this
     by_cases hx:c.c.n-1≠s.l.length∨c.c.e<Cm.lastE 0 s.l
     ·exact hx
     ·exact absurd ⟨KC.out,hx⟩ this
    have E4:=hide e4
    have W3:=hide (HW2.out.below aC)
    have B3:=hide iw
    clear e4 iw HV3 K3 O3
    go_wp2
    go_ret
    exact⟨by rw[E4.out];rfl,by rw[E4.out];exact⟨F,W3.out,Out.of_below B3.out,fun g hg=>.inl hg⟩⟩
   |true=>
    have hgood:Cm.Good 0 0 (s.l++[c.c]):=(arf HV3.out.log.good c.c).1 HA.out
    have htk:=HA.out
    unfold tk at htk
    rw[decide_eq_true_iff]at htk
    have WR:=hide (qL q F1 w3 s.d 0 _ (frd c.e c.n c.l) K3.out O3.out.is (fun _ b hb hf=>by
     have h1:=(O3.out.block b hb).1
     have h2:=HLT.out b (by rw[HFF.out];exact .inl hf)
     omega) (by omega) (by have h1:=BG.out.1.2.1;have h2:=HS.out.1.2.1;have h3:=acG hfl;omega) BG.out.2 (by have h2:=HS.out.1.2.2;have h3:=acG hfl;omega))
    rw[hfr]at WR
    have e01:=abK (st:=s.d) (Wl.fr c.c)
    have e4:Wl.lI s c.c=if (Dm.write s.d 0 (Wl.fr c.c)).1≠0 then((Dm.write s.d 0 (Wl.fr c.c)).1,⟨(Dm.write s.d 0 (Wl.fr c.c)).2,s.l,true⟩)else(0,⟨(Dm.write s.d 0 (Wl.fr c.c)).2,s.l++[c.c],false⟩):=by
     unfold Wl.lI
     rw[ha,if_neg (by decide),if_neg (by intro hx;exact hx KC.out),if_neg htk.2]
    generalize hwr:Dm.write s.d 0 (Wl.fr c.c)=y at*
    obtain⟨x,d'⟩:=y
    simp only at e01 e4 WR
    have E4:=hide e4
    have GD:=hide hgood
    have W3:=hide (HW2.out.below aC)
    have B3:=hide iw
    have SZ3:w1.heap.size≤w3.heap.size:=by omega
    rw[hfr]at O3 hfl
    clear e4 hgood htk hwr iw aC hfr
    go_wp2_with fail
    refine WR.out.mono ?_
    rintro E w4 ⟨rfl,PS⟩
    obtain⟨F2,k1,k2,k3,k4⟩:=WW.disk (s:=⟨s.d,s.l,s.bk⟩) K3.out ⟨vc,ve,rs,HV3.out,rfl⟩ PS
    have HE:=hide (acg p q _ w4 ⟨d',s.l,s.bk⟩ x ⟨F2,_,k1,k2,rfl⟩)
    simp only at HE
    have T4:=hide (show Out F w3 w4∧∀g,(F2 g∨(g=p∨LB vc ve rs g))→F g∨w3.heap.size≤g from by
     refine⟨k3.mono fun g hg=>.inl (by rw[HFF.out];exact .inl hg),?_⟩
     rintro g (hg|hg)
     ·rcases k4 g hg with e|e
      ·exact .inl (by rw[HFF.out];exact .inl e)
      ·exact .inr e
     ·exact .inl (by rw[HFF.out,HGG.out];exact .inr hg))
    clear PS k1 k2 k3 k4 WR K3 HV3
    go_wp2_with fail
    refine HE.out.mono ?_
    rintro E w5 ⟨rfl,J⟩
    have J5:=hide (iG.trans T4.out.1 T4.out.2 J)
    clear HE J
    rcases e01 with rfl|rfl
    ·obtain⟨F5,⟨Fa,Ga,g1,g2,hF5⟩,o5,s5⟩:=J5.out
     obtain⟨vc5,ve5,rs5,hv5,hG5⟩:=g2
     have lU:=o5.size
     have hnF:¬F w.heap.size:=fun hf=>by have:=HLT.out _ hf;omega
     have xZ:=(o5.block w.heap.size (by omega) hnF).trans HB3.out
     have x0:w5.cell? ⟨w.heap.size,0,none⟩=some (.int .i64 c.e):=ai xZ 0 rfl
     have x1:w5.cell? ⟨w.heap.size,1,none⟩=some (.int .i64 c.n):=ai xZ 1 rfl
     have x2:w5.cell? ⟨w.heap.size,2,none⟩=some c.v:=ai xZ 2 rfl
     rw[uy.out]at x2
     have i5:dz w5 c.v c.l:=(IOX.out.below B3.out).out o5 HCF.out
     have HCP:Hid (Calls Tryz.prog 64 #[.agg #[.int .i64 c.e,.int .i64 c.n,.slice ao c.l.length cap]] w5.drew fun E w6=>∃v',E=.returned (.agg #[.int .i64 c.e,.int .i64 c.n,v'])∧bu 71 0 w6 v' c.l∧Below w5.heap.size w5 w6∧(∀b,v'.ownBlock=some b→w5.heap.size≤b)∧w6.cell? ⟨w.heap.size,0,none⟩=some (.int .i64 c.e)∧w6.cell? ⟨w.heap.size,1,none⟩=some (.int .i64 c.n)∧w6.cell? ⟨w.heap.size,2,none⟩=some (.slice ao c.l.length cap)∧∃a n k,v'=.slice a n k):=hide (by
      have:=uX c.e c.n c.v c.l w5.drew (i5.drewN 1) FO.out.2.2
      unfold dF at this
      rw[uy.out]at this
      refine this.mono ?_
      rintro E w6 ⟨v',rfl,eY,fo⟩
      have uD:Below w5.heap.size w5 w6:=(Below.refl w5.heap.size w5).drew.trans fo
      obtain⟨a,k,hv',_,_⟩:=eY.is.shape
      exact⟨v',rfl,eY.bz (Nat.zero_le _),uD,fun b hb=>(bu.block eY b hb).1,(uD.cell (p:=⟨w.heap.size,0,none⟩) (show w.heap.size<w5.heap.size by omega)).trans x0,(uD.cell (p:=⟨w.heap.size,1,none⟩) (show w.heap.size<w5.heap.size by omega)).trans x1,(uD.cell (p:=⟨w.heap.size,2,none⟩) (show w.heap.size<w5.heap.size by omega)).trans x2,a,_,k,hv'⟩)
     have hp5:p<w5.heap.size:=aA hv5.blk
     have HGR:Hid (∀w6 v',Below w5.heap.size w5 w6→bu 71 0 w6 v' c.l→(∀b,v'.ownBlock=some b→w5.heap.size≤b)→Calls Tryz.prog 245 #[.pointer (some ⟨p,2,none⟩),.agg #[.int .i64 c.e,.int .i64 c.n,v'],.int .i64 (Wl.fr c.c).length] w6 fun E w7=>E=.returned (.tuple #[])∧iG p q F w w7 ⟨d',s.l++[c.c],false⟩∧w7.cell? ⟨w.heap.size,0,none⟩=some (.int .i64 c.e)∧w7.cell? ⟨w.heap.size,1,none⟩=some (.int .i64 c.n)∧w7.cell? ⟨w.heap.size,2,none⟩=some (.slice ao c.l.length cap)):=hide fun w6 v' uD eY hge=>by
      have hB6:=(uD.block p hp5).trans hv5.blk
      have L6:=hv5.log.below uD
      have:=aly 0 p 2 196 _ w6 s.l vc5 ve5 rs5 ⟨c.e,c.n,v',c.l⟩ (Wl.fr c.c).length hB6 rfl rfl (by decide) (by decide) (by decide) L6 (Nat.zero_le _) eY GD.out rfl
      unfold dF at this
      refine this.mono ?_
      rintro E w7 ⟨rfl,vc7,ve7,hB7,L7,o7,s7⟩
      have uo:=uD.size
      have K6:=g1.below uD
      obtain⟨F7,q1,q2,q3⟩:=avd (N:=w5.heap.size) (l':=s.l++[c.c]) (zO:=vc7) (ve':=ve7) (rs':=rs5++[(⟨c.e,c.n,v',c.l⟩:Cw)]) (w:=w6) K6 ⟨hB6,L6⟩ (by rw[hB7];rfl) L7 o7 (w':=w7) (fun g hg=>by
       rcases s7 g hg with e|e|e
       ·exact .inl e
       ·exact .inr (by omega)
       ·exact .inr (hge g e)) uo
      have s6:∀g,(Fa g∨g=p∨LB vc5 ve5 rs5 g)→F5 g:=fun g hg=>by
       rw[hF5,hG5]
       exact hg
      have o57:Out F5 w5 w7:=(Out.of_below (F:=F5) uD).trans q2 fun g hg=>.inl (s6 g hg)
      have o37:Out F w3 w7:=o5.trans o57 s5
      have f7:∀g,F7 g→F g∨w3.heap.size≤g:=fun g hg=>by
       rcases q3 g hg with e|e
       ·exact s5 g (s6 g e)
       ·exact .inr (by omega)
      have alV:=(o37.block w.heap.size (by omega) hnF).trans HB3.out
      refine⟨rfl,iG.pre B3.out ⟨F7,q1,o37,f7⟩,ai alV 0 rfl,ai alV 1 rfl,?_⟩
      rw[←uy.out]
      exact ai alV 2 rfl
     clear hv5 xZ i5
     go_wp2_with fail
     go_region_held3 (fun w'=>w'.cell? ⟨w.heap.size,0,none⟩=some (.int .i64 c.e)∧w'.cell? ⟨w.heap.size,1,none⟩=some (.int .i64 c.n)∧w'.cell? ⟨w.heap.size,2,none⟩=some (.slice ao c.l.length cap)) (first|exact⟨x0,x1,x2⟩|exact⟨y0,y1,y2⟩|exact⟨z0,z1,z2⟩|go_keep)
      (first
      |(go_at_call 64;refine HCP.out.mono ?_;rintro E w6 ⟨v6,rfl,eY,uD,hge,y0,y1,y2,a6,n6,k6,rfl⟩)
      |(go_at_call 245;refine(HGR.out _ _ uD eY hge).mono ?_;rintro E w7 ⟨rfl,J7,z0,z1,z2⟩;have J7:=hide J7))
     all_goals
      have A7:Hid (Wl.lI s c.c=(0,⟨d',s.l++[c.c],false⟩)):=hide (by rw[E4.out];simp)
      clear E4
      go_wp2
      go_ret
      exact⟨by rw[A7.out];rfl,by rw[A7.out];exact J7.out⟩
    ·have A6:Hid (Wl.lI s c.c=(6,⟨d',s.l,true⟩)):=hide (by rw[E4.out];simp)
     clear E4
     go_wp2
     go_ret
     exact⟨by rw[A6.out];rfl,by rw[A6.out];exact iG.pre B3.out J5.out⟩
  ·have hne:(ch !=0)=true:=by simp[hc0]
   have e1:Wl.lI s c.c=(ch,s):=by
    unfold Wl.lI
    rw[ha,if_neg (by decide),if_pos (by show Cm.chk c.e c.n c.l≠0;rw[KC.out];exact hc0)]
    show(Cm.chk c.e c.n c.l,s)=_
    rw[KC.out]
   have E1:=hide e1
   clear e1
   subst hvb
   go_wp2
   go_ret
   exact⟨by rw[E1.out];rfl,by rw[E1.out];exact⟨F,HW2.out,Out.of_below xR.out,fun g hg=>.inl hg⟩⟩
end Go.Proofs.YtlmkaljjocflmaaGreatDoor

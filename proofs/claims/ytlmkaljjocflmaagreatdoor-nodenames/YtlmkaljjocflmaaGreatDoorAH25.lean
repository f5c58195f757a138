/- Texts of one layer, one behind the other. -/
import Derived.Test.YtlmkaljjocflmaaGreatDoorAH6
import Derived.Test.YtlmkaljjocflmaaGreatDoorAH5
set_option maxRecDepth 100000
set_option maxHeartbeats 8000000
namespace Go.Proofs.YtlmkaljjocflmaaGreatDoor
open Go.RowKit
set_option linter.unusedVariables false
theorem afF (e n:Int)(v:Value)(l:List Bm.Ov)(w:World)(h:dz w v l)(hf:fZ l)(hl:l.length≤140737488355328):
  Calls Tryz.prog 156 #[dF e n v] w fun E w'=>∃vb,E=.returned (.tuple #[vb,.int .i64 (Cm.chk e n l)])∧Own .u8 5 w.heap.size w' vb (Cm.out e n l)∧Below w.heap.size w w':=by
 unfold dF
 obtain⟨ch,hch⟩:∃c,Cm.chk e n l=c:=⟨_,rfl⟩
 obtain⟨ou,hou⟩:∃c,Cm.out e n l=c:=⟨_,rfl⟩
 rw[hch,hou]
 have HC:=hide hch
 have HO:=hide hou
 clear hch hou
 obtain⟨w1,hw1,aT,ak,hB⟩:=au w #[.int .i64 e,.int .i64 n,v] 35
 have c0:=ai hB 0 rfl
 have c1:=ai hB 1 rfl
 have c2:=ai hB 2 rfl
 have h1:=h.below ak
 obtain⟨ao,cap,rfl,_,_⟩:=h.shape
 have BB:=hide hB
 clear hB
 go_enter Tryz.func156,Tryz.ntmps156
 go_wp2_with fail
 refine(sU e n _ l _ h1 hf hl).mono ?_
 rintro E w2 ⟨rfl,az⟩
 rw[HC.out]
 have dm:=az.size
 have hB2:=(az.block _ (by omega)).trans BB.out
 have d0:=ai hB2 0 rfl
 have d1:=ai hB2 1 rfl
 have d2:=ai hB2 2 rfl
 have h2:=h1.below az
 have aO:=ak.trans (az.mono (by omega))
 have B2:=hide hB2
 clear BB c0 c1 c2 hB2 ak az h1
 by_cases hc:ch=0
 ·subst hc
  have hc:=HC.out
  obtain⟨g1,g2,g3,g4,g5⟩:=Cm.aV hc
  have hO:=HO.out
  rw[Cm.jS hc,Cm.dW]at hO
  replace HO:=hide hO
  clear hO
  have hs1:=Cm.ib g2
  have hs2:=Cm.ib g4
  clear hc
  go_wp2_with fail
  refine(fK _ [] e _ (Is.nil _ _) (by simp) (by omega) (by omega)).mono ?_
  rintro E w3 ⟨vb,rfl,bG,aC⟩
  have bJ:=aC.size
  have hB3:=(aC.block _ (by omega)).trans B2.out
  have f1:=ai hB3 1 rfl
  have h3:=h2.below aC
  have aW:=aO.trans (aC.mono (by omega))
  have B3:=hide hB3
  rw[List.nil_append]at bG
  clear B2 d0 d1 d2 hB3 aC h2 aO
  go_wp2_with fail
  refine(fK _ _ n _ bG.is (by omega) (by omega) (by omega)).mono ?_
  rintro E w4 ⟨vc,rfl,bq,aL⟩
  have iE:=aL.size
  have hB4:=(aL.block _ (by omega)).trans B3.out
  have q2:=ai hB4 2 rfl
  have h4:=h3.below aL
  have di:=aW.trans (aL.mono (by omega))
  clear B3 f1 hB4 aL h3 aW bG
  go_wp2_with fail
  refine(aoj _ _ _ l _ bq.is (by rw[List.length_append];omega) h4 hf hl).mono ?_
  rintro E w5 ⟨vd,rfl,dx,aQ⟩
  rw[g5]
  rw[Bm.agV g5,List.append_assoc,HO.out]at dx
  have avP:=dx.bz (base':=w.heap.size) (by omega)
  have adA:=di.trans (aQ.mono (by omega))
  clear dx bq h4 di aQ
  go_wp2
  refine bodyPost_ret (v:=.tuple #[vd,.int .i64 0]) (by simp[results,Tryz.results156,go_sem]) rfl ?_
  exact⟨_,rfl,avP,adA⟩
 ·have hne:(ch==0)=false:=by simpa using hc
  have hO:=HO.out
  rw[Cm.oO (by rw[HC.out];exact hc)]at hO
  subst hO
  clear hc
  go_wp2
  refine bodyPost_ret (v:=.tuple #[.slice none 0 0,.int .i64 ch]) (by simp[results,Tryz.results156,go_sem]) rfl ?_
  exact⟨_,rfl,Own.nil _ _ _ _,aO⟩
structure Fst (w wr:World) (g m cap:Nat) (rest:List Cw) (k:Nat) (rk:List Cw):Prop where
 row:bK 35 w.heap.size wr (.slice (some ⟨g,0,none⟩) m cap) rk
 len:rk.length=m
 left:rk.drop k=rest.drop k
 kr:gP w.heap.size wr (rk.take k)
 is:aH rk=aH rest
 ap:yw (rk.take k)
 aK:Below w.heap.size w wr
theorem Fst.next {w wr w2 w3:World}{g m cap:Nat}{rest rk:List Cw}{k:Nat}(h:Fst w wr g m cap rest k rk){c:Cw}(hc:rest[k]? =some c)(hk:k<m){v':Value}(ho:bu 71 wr.heap.size w2 v' c.l)(hb:Below wr.heap.size wr w2)
  (hr:bK 35 w.heap.size w3 (.slice (some ⟨g,0,none⟩) m cap) (rk.set k ⟨c.e,c.n,v',c.l⟩)) (hg:w2.grownBy w3 (some g)):Fst w w3 g m cap rest (k+1) (rk.set k ⟨c.e,c.n,v',c.l⟩):=by
 have hlen:=h.len
 have hrk:rk[k]? =some c:=by
  have e1:(rk.drop k)[0]? =(rest.drop k)[0]? :=by rw[h.left]
  rw[List.getElem?_drop,List.getElem?_drop]at e1
  simpa using e1.trans (by simpa using hc)
 have htk:(rk.set k ⟨c.e,c.n,v',c.l⟩).take (k+1)=rk.take k++[⟨c.e,c.n,v',c.l⟩]:=by
  rw[List.take_succ_eq_append_getElem (by rw[List.length_set];omega),List.take_set_of_le (Nat.le_refl _)]
  simp
 have hrow2:bK 35 w.heap.size w2 (.slice (some ⟨g,0,none⟩) m cap) rk:=h.row.below hb
 have kt:bH 35 w2 w3:=bH.zX hrow2 hg
 refine⟨hr,by rw[List.length_set];exact hlen,?_,?_,?_,?_,?_⟩
 ·rw[List.drop_set_of_lt (by omega),←List.drop_drop,h.left,List.drop_drop]
 ·rw[htk]
  exact((h.kr.below hb).p9 kt).snoc (c:=⟨c.e,c.n,v',c.l⟩) ((ho.p9 kt (by decide)).bz h.aK.size)
 ·rw[←h.is]
  unfold aH
  rw[List.map_set]
  apply List.ext_getElem?
  intro i
  rw[List.getElem?_set]
  by_cases hik:k=i
  ·subst hik
   rw[if_pos rfl,if_pos (by rw[List.length_map];omega),List.getElem?_map,hrk]
   rfl
  ·rw[if_neg hik]
 ·rw[htk]
  refine ad3 (N:=wr.heap.size) h.ap (fun d hd b hb=>((h.kr d hd).block b hb).2) fun b hb=>(bu.block ho b hb).1
 ·have b2:=h.aK.trans (hb.mono h.aK.size)
  refine b2.grown hg b2.size fun i hi=>?_
  have:=(World.ownsRow.lt h.row g rfl).1
  simp only[Option.some.injEq]at hi
  omega
end Go.Proofs.YtlmkaljjocflmaaGreatDoor

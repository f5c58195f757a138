/- Texts of one layer, one behind the other. -/
import Derived.Test.YtlmkaljjocflmaaGreatDoorAM1
import Derived.Test.YtlmkaljjocflmaaGreatDoorAH4
import Derived.Test.YtlmkaljjocflmaaGreatDoorAH1
import Derived.Maps.OwnSet
import Derived.BigQuiet
set_option maxRecDepth 100000
set_option maxHeartbeats 8000000
namespace Go.Proofs.YtlmkaljjocflmaaGreatDoor
open Go.RowKit Go.Maps
open Bm (Ov)
set_option linter.unusedVariables false
theorem Tryz.keyed:Keyed Tryz.prog 9:=string_keyed Tryz.underlying9
def Ren:Value→Option (DataW Unit×List MemPlace)
 |.agg cs=>match cs.toList with
  |[.string s,.bool b]=>some (.agg [.lit (.string s.data.toList),.lit (.bool b)],[])
  |_=>none
 |_=>none
def env (v:ByteArray) (p:Bool):Value:=.agg #[.string v,.bool p]
theorem atA (o:Ov):Ren (env o.v o.p)=some (Tm.el o,[]):=rfl
theorem aqo {v:Value}{y:DataW Unit×List MemPlace}(h:Ren v=some y):∃(s:ByteArray) (b:Bool),v=env s b∧y=(.agg [.lit (.string s.data.toList),.lit (.bool b)],[]):=by
 unfold Ren at h
 split at h
 ·rename_i cs
  split at h
  ·rename_i s b hcs
   refine⟨s,b,?_,by simpa using h.symm⟩
   obtain⟨l⟩:=cs
   simp at hcs
   subst hcs
   rfl
  ·simp at h
 ·simp at h
theorem akn {v:Value}{o:Ov}{ps:List MemPlace}(h:Ren v=some (Tm.el o,ps)):v=env o.v o.p:=by
 obtain⟨s,b,rfl,e⟩:=aqo h
 simp only[Tm.el,Ov.vl,Prod.mk.injEq,DataW.agg.injEq,List.cons.injEq,DataW.lit.injEq,Lit.string.injEq,Lit.bool.injEq,and_true]at e
 obtain⟨⟨e1,e2⟩,_⟩:=e
 rw[Bm.oh e1,e2]
theorem aoy {v:Value}{ps:List MemPlace}(h:Ren v=some (.agg [.lit (.string []),.lit (.bool false)],ps)):v=env ⟨#[]⟩ false:=akn (o:=⟨false,⟨#[]⟩,⟨#[]⟩⟩) h
theorem Tryz.zeroE (w:World):(zeroValue 171).run Tryz.prog w=.ok (env ⟨#[]⟩ false) w:=by kernel_rfl
theorem World.ownsMap.tight {P:Program}{k:TypeId}{R:Value→Option (DataW Unit×List MemPlace)}{w:World}{b n:Nat}{D:DataW Unit}(h:w.ownsMap P k R b n D):w.ownsMap P k R b (Maps.size D) D:=by
 obtain⟨es,clock,hb,F,hs,rfl⟩:=h
 exact⟨es,clock,hb,F,by simp[Maps.size,length_sorted],rfl⟩
structure Tb (p b:Nat) (w:World) (t:List Ov):Prop where
 blk:w.heap[p]? =some (.cells #[.map (some b)] 167 (0,0))
 own:w.ownsMap Tryz.prog 9 Ren b t.length (Tm.dat t)
 up:Tm.Up t
theorem Tb.plt {p b:Nat}{w:World}{t:List Ov}(h:Tb p b w t):p<w.heap.size:=aA h.blk
theorem Tb.blt {p b:Nat}{w:World}{t:List Ov}(h:Tb p b w t):b<w.heap.size:=h.own.lt
theorem Tb.agree {p b:Nat}{w w':World}{t:List Ov}(h:Tb p b w t)(h1:w'.heap[p]? =w.heap[p]?)(h2:w'.heap[b]? =w.heap[b]?):Tb p b w' t:=by
 refine⟨h1.trans h.blk,?_,h.up⟩
 obtain⟨es,clock,hb,r⟩:=h.own
 exact⟨es,clock,h2.trans hb,r⟩
theorem Tb.below {p b:Nat}{w w':World}{t:List Ov}(h:Tb p b w t)(hb:Below w.heap.size w w'):Tb p b w' t:=h.agree (hb.block p h.plt) (hb.block b h.blt)
theorem Tb.cell {p b:Nat}{w:World}{t:List Ov}(h:Tb p b w t):w.cell? ⟨p,0,none⟩=some (.map (some b)):=ai h.blk 0 rfl
theorem Tb.ne {p b:Nat}{w:World}{t:List Ov}(h:Tb p b w t):p≠b:=fun e=>by
 obtain⟨es,clock,hb,_⟩:=h.own
 have:=h.blk
 rw[e,hb]at this
 cases this
theorem Tb.row {p b:Nat}{w:World}{t:List Ov}(h:Tb p b w t){g j:Nat}{u:Value}(hc:w.cell? ⟨g,j,none⟩=some u):g≠b:=fun e=>by
 obtain⟨es,clock,hb,_⟩:=h.own
 subst e
 simp[World.cell?,hb]at hc
theorem afZ (w:World)(d:Nat)(m:Option Nat):(Op.equalIn (d+1) 165 (.map m) (.map none)).run Tryz.prog w=.ok m.isNone w:=by
 have h:=Tryz.underlying165
 cases m<;>simp[Op.equalIn,run_underlying h]
theorem Tryz.arA (w:World)(m:Option Nat):(binOp .neq 165 (.map m) (.map none)).run Tryz.prog w=.ok (.bool (!m.isNone)) w:=by
 simp only[binOp]
 simp[Op.equal,Op.maxDepth,afZ w 9999 m]
theorem ab4 (p b:Nat)(w:World)(hc:w.cell? ⟨p,0,none⟩=some (.map (some b))):
  Calls Tryz.prog 93 #[.pointer (some ⟨p,0,none⟩)] w fun E w'=>E=.returned (.bool true)∧w=w':=by
 have hn:=Tryz.arA w (some b)
 go_enter Tryz.func93,Tryz.ntmps93
 go_wp2
 go_ret
 exact⟨rfl,rfl⟩
theorem amT (w:World):Calls Tryz.prog 45 #[] w fun E w'=>E=.returned (.pointer (some ⟨w.heap.size+1,0,none⟩))∧Tb (w.heap.size+1) w.heap.size w' []∧Below w.heap.size w w':=by
 obtain⟨w1,hw1⟩:∃w1,w.alloc (.map #[] 0)=w1:=⟨_,rfl⟩
 have hm1:w1.ownsMap Tryz.prog 9 Ren w.heap.size 0 (.map []):=by rw[←hw1];exact World.ownsMap_made _ _ _ _
 have aT:w1.heap.size=w.heap.size+1:=by rw[←hw1];simp
 have b1:Below w.heap.size w w1:=by rw[←hw1];exact(Below.refl _ _).alloc (Nat.le_refl _) _
 obtain⟨w2,hw2,dm,b2,B2⟩:=au w1 #[.map (some w.heap.size)] 167
 rw[aT]at B2 b2
 have H:Hid (Tb (w.heap.size+1) w.heap.size w2 []∧Below w.heap.size w w2):=hide ⟨⟨B2,by
  obtain⟨es,clock,hb,r⟩:=hm1
  exact⟨es,clock,(b2.block _ (by omega)).trans hb,r⟩,List.Pairwise.nil⟩,b1.trans (b2.mono (by omega))⟩
 have hmm:=@run_makeMap Tryz.prog
 clear hm1 b1 b2 B2
 go_enter Tryz.func45,Tryz.ntmps45
 go_wp2
 go_ret
 exact⟨rfl,H.out⟩
def gv (t:List Ov) (k:ByteArray):ByteArray:=match Tm.get t k with|some o=>o.v|none=>⟨#[]⟩
def gp (t:List Ov) (k:ByteArray):Bool:=match Tm.get t k with|some o=>o.p|none=>false
theorem aqI {p b:Nat}{w:World}{t:List Ov}(h:Tb p b w t)(k:ByteArray)(hk:k.size≤maxLen)(c:Bool):
  (Instr.lookup 165 (.map (some b)) (.string k) c).run Tryz.prog w=.ok (if c then .tuple #[env (gv t k) (gp t k),.bool (Tm.met t k)]else env (gv t k) (gp t k)) w:=by
 have hkey:keyOf Tryz.prog 9 (.string k)=some (.string k.data.toList):=WideMaps.keyOf_string_mk Tryz.underlying9 hk
 have hsh:∀(v:Value) (ps:List MemPlace),Ren v=some ((Tm.dat t).atKey (.string k.data.toList) (.agg [.lit (.string []),.lit (.bool false)]),ps)→v=env (gv t k) (gp t k):=fun v ps hv=>by
  rw[Tm.dat_at]at hv
  unfold gv gp
  cases e:Tm.get t k with
  |none=>rw[e]at hv;exact aoy hv
  |some o=>rw[e]at hv;exact akn hv
 cases c
 ·obtain⟨v,ps,hrun,hv⟩:=h.own.lookup Tryz.keyed Tryz.underlying165 (Tryz.zeroE w) (zd:=.agg [.lit (.string []),.lit (.bool false)]) (zp:=[]) rfl hkey
  rw[hrun,hsh v ps hv]
  rfl
 ·obtain⟨v,ps,hrun,hv⟩:=h.own.look_ok Tryz.keyed Tryz.underlying165 (Tryz.zeroE w) (zd:=.agg [.lit (.string []),.lit (.bool false)]) (zp:=[]) rfl hkey
  rw[hrun,hsh v ps hv,Tm.aqj,Tm.wN]
  rfl
theorem aoK (p b:Nat)(w:World)(t:List Ov)(k:ByteArray)(h:Tb p b w t)(hk:k.size≤140737488355328):
  Calls Tryz.prog 48 #[.pointer (some ⟨p,0,none⟩),.string k] w fun E w'=>E=.returned (.tuple #[.string (gv t k),.bool (Tm.met t k),.bool (gp t k)])∧Below w.heap.size w w':=by
 have hc:=h.cell
 have hl:=aqI h k (by unfold maxLen;omega) true
 simp only[if_true]at hl
 have HM:=hide (ab4 p b w hc)
 obtain⟨w1,hw1,aT,b1,B1⟩:=au w #[.string (gv t k),.bool (gp t k)] 171
 have c0:=ai B1 0 rfl
 have c1:=ai B1 1 rfl
 unfold env at hl
 clear h B1
 go_enter Tryz.func48,Tryz.ntmps48
 go_wp2_with fail
 refine HM.out.mono ?_
 rintro E w' ⟨rfl,rfl⟩
 go_wp2
 go_quiet (fail)
 go_wp2
 go_ret3
 exact⟨rfl,b1.trans (below_drewN (Below.refl _ _) _)⟩
end Go.Proofs.YtlmkaljjocflmaaGreatDoor
namespace Go.Proofs.YtlmkaljjocflmaaGreatDoor
open Go.RowKit Go.Maps
open Bm (Ov)
set_option linter.unusedVariables false
attribute [local go_sem] Oper.semAt_some
def Tm.aft (t l:List Ov):List Ov:=if Bm.first l=0 then Tm.app t l else t
theorem jM {W W':World}{B:Nat}(h:W'.heap[B]? =W.heap[B]?)(j:Nat):W'.cell? ⟨B,j,none⟩=W.cell? ⟨B,j,none⟩:=World.cell?_of_block (show W'.heap[(⟨B,j,none⟩:Addr).block]? =W.heap[(⟨B,j,none⟩:Addr).block]? from h)
theorem asf {p b:Nat}{w:World}{t:List Ov}(o:Ov)(h:Tb p b w t)(hk:o.k.size≤140737488355328)(hn:t.length<140737488355328):
  ∃w',(Instr.mapUpdate 165 (.map (some b)) (.string o.k) (.agg #[.string o.v,.bool o.p])).run Tryz.prog w=.ok () w'∧Tb p b w' (Tm.one t o)∧w.grownBy w' (some b):=by
 have hkey:keyOf Tryz.prog 9 (.string o.k)=some (.string o.kl):=WideMaps.keyOf_string_mk Tryz.underlying9 (by unfold maxLen;omega)
 obtain⟨w',h1,h2,h3⟩:=h.own.update Tryz.keyed Tryz.underlying165 (by unfold maxLen;omega) hkey (atA o)
 refine⟨w',h1,⟨(h3.block p h.plt fun e=>h.ne (Option.some.inj e)).trans h.blk,?_,Tm.uJ o h.up⟩,h3⟩
 rw[Tm.arw o h.up]at h2
 have:=World.ownsMap.tight h2
 rwa[Tm.aoV]at this
theorem ail (p b:Nat)(w:World)(t:List Ov)(v:Value)(l:List Ov)(h:Tb p b w t)(hl:dz w v l)(hf:fZ l)(hn:t.length+l.length≤1000000):
  Calls Tryz.prog 47 #[.pointer (some ⟨p,0,none⟩),v] w fun E w'=>E=.returned (.int .i64 (Bm.first l))∧Tb p b w' (Tm.aft t l)∧Out (fun g=>g=b) w w':=by
 have HM:=hide (ab4 p b w h.cell)
 obtain⟨ao,cap,hsv,hcap,hcm⟩:=hl.shape
 have jd:=hide fun(h0:0<l.length)=>hl.full h0
 subst hsv
 have HF:=hide hf
 have HT0:=hide h
 obtain⟨n,hnn⟩:∃n,l.length=n:=⟨_,rfl⟩
 rw[hnn]at jd hcap hn⊢
 have HN:=hide hnn
 have hc:=h.cell
 have hplt:=h.plt
 clear hl hf h hnn
 go_enter Tryz.func47,Tryz.ntmps47
 go_wp2_with fail
 refine HM.out.mono ?_
 rintro E w' ⟨rfl,rfl⟩
 go_wp2
 go_loopw [15] (fun i wr=>∃(k:Nat),k≤n∧i=.int .i64 k∧Hid (∀q∈l.take k,q.c=0)∧Below w.heap.size w wr) (fun i _=>n-(intOf i).toNat)
 case atStart=>exact⟨0,by omega,rfl,hide (by simp),Below.refl _ _⟩
 case round=>
  obtain⟨k,hk,rfl,HT,aK⟩:=hrel
  obtain⟨wa,rfl⟩:∃x,x=wr:=⟨wr,rfl⟩
  have sz:=aK.size
  by_cases hlt:k<n
  ·obtain⟨o,ho⟩:∃o,l[k]? =some o:=⟨l[k]'(by have:=HN.out;omega),by rw[List.getElem?_eq_getElem]⟩
   obtain⟨b1,o1,cq,fH,_,_,hB,hcell⟩:=jd.out (by omega)
   simp only[Value.slice.injEq,true_and]at fH
   obtain⟨rfl,rfl⟩:=fH
   obtain⟨c0,c1,c2⟩:=hcell k o ho
   have d0:=(aK.cell (p:=⟨b1,o1+k*3,none⟩) hB).trans c0
   have d1:=(aK.cell (p:=⟨b1,o1+k*3+1,none⟩) hB).trans c1
   have d2:=(aK.cell (p:=⟨b1,o1+k*3+2,none⟩) hB).trans c2
   have HO:=hide ho
   clear c0 c1 c2 ho hcell
   have hlt':(k:Int)<n:=by omega
   obtain⟨hk1,hv1⟩:=HF.out o (List.mem_of_getElem? HO.out)
   obtain⟨W1,hW1,aT,rU,B1⟩:=au wa #[.bool o.p,.string o.k,.string o.v] 71
   have e0:=ai B1 0 rfl
   have e1:=ai B1 1 rfl
   have e2:=ai B1 2 rfl
   have b01:Below w.heap.size w W1:=aK.trans (rU.mono sz)
   clear B1 rU
   go_wp2_with fail
   refine(kN o.p o.k o.v _ hk1 hv1).mono ?_
   rintro E w1 ⟨rfl,ak⟩
   have az:Below w.heap.size w w1:=b01.trans (ak.mono (by omega))
   clear ak d0 d1 d2 e0 e1 e2
   rcases(show Om.chk o.p o.k.data.toList o.v.data.toList=0∨_ from Om.xE _ _ _)with hc|hc
   ·rw[hc]
    have HT2:=hide (zJ HT.out HO.out hc)
    clear hc
    go_wp2
    go_roundw
    case rel=>exact⟨k+1,by omega,by go_num,HT2,az⟩
    case measure=>simp[intOf];omega
   ·rw[hc]
    have HB:=hide (Bm.acp (List.mem_of_getElem? HO.out) (show Bm.Ov.c o≠0 by unfold Bm.Ov.c Bm.Ov.kl Bm.Ov.vl;rw[hc];simp))
    clear hc
    go_wp2
    go_ret
    refine⟨jV HB.out.symm,?_,Out.of_below az⟩
    unfold Tm.aft
    rw[HB.out]
    exact HT0.out.below az
  ·have hkn:k=n:=by omega
   have HB:Hid (Bm.first l=0):=hide (Bm.qg (fun q hq=>HT.out q (by rw[List.take_of_length_le (by have:=HN.out;omega)];exact hq)))
   have hlt':¬(k:Int)<n:=by omega
   have HT1:=hide (HT0.out.below aK)
   have ahG:=hide aK
   clear hc aK
   go_wp2
   go_loopw [27] (fun i wr=>∃(k:Nat),k≤n∧i=.int .i64 k∧Hid (Tb p b wr (Tm.app t (l.take k)))∧Out (fun g=>g=b) w wr) (fun i _=>n-(intOf i).toNat)
   case atStart=>exact⟨0,by omega,rfl,HT1,Out.of_below ahG.out⟩
   case round=>
    obtain⟨k,hk,rfl,HT,aK⟩:=hrel
    have sz:=aK.size
    by_cases hlt:k<n
    ·obtain⟨o,ho⟩:∃o,l[k]? =some o:=⟨l[k]'(by have:=HN.out;omega),by rw[List.getElem?_eq_getElem]⟩
     obtain⟨b1,o1,cq,fH,_,_,hB,hcell⟩:=jd.out (by omega)
     simp only[Value.slice.injEq,true_and]at fH
     obtain⟨rfl,rfl⟩:=fH
     obtain⟨c0,c1,c2⟩:=hcell k o ho
     have hbb:=HT0.out.row c0
     have hblk:=aK.block b1 hB hbb
     have d0:=(jM hblk (o1+k*3)).trans c0
     have d1:=(jM hblk (o1+k*3+1)).trans c1
     have d2:=(jM hblk (o1+k*3+2)).trans c2
     have HO:=hide ho
     clear c0 c1 c2 ho hcell hblk
     have avq:(k:Int)<n:=by omega
     obtain⟨hk1,hv1⟩:=HF.out o (List.mem_of_getElem? HO.out)
     obtain⟨W1,hW1,aT,rU,B1⟩:=au wr #[.bool o.p,.string o.k,.string o.v] 71
     have e0:=ai B1 0 rfl
     have e1:=ai B1 1 rfl
     have e2:=ai B1 2 rfl
     have T1:=HT.out.below rU
     have pc:=T1.cell
     have hlen:(Tm.app t (l.take k)).length<140737488355328:=by
      have h1:=Tm.aa4 (l.take k) t
      rw[List.length_take]at h1
      omega
     obtain⟨W2,hrun,T2,g2⟩:=asf (w:=W1.drew) o (T1.agree rfl rfl) (by omega) hlen
     have R2:Hid (Tb p b W2 (Tm.app t (l.take (k+1)))∧Out (fun g=>g=b) w W2):=hide ⟨by
      obtain⟨hk',hk2⟩:=List.getElem?_eq_some_iff.1 HO.out
      rw[List.take_succ_eq_append_getElem hk',hk2,Tm.lY]
      exact T2,by
      have q1:Out (fun g=>g=b) w W1:=aK.trans (Out.of_below (F:=fun g=>g=b) rU) fun g hg=>.inl hg
      have q2:Out (fun g=>g=b) w W1.drew:=q1.drew 1
      exact q2.trans (Out.aP (F:=fun g=>g=b) g2 fun g hg=>by simpa using hg.symm) fun g hg=>.inl hg⟩
     clear T1 T2 g2 B1 rU aK
     go_wp2
     go_region
     go_wp2
     go_roundw
     case rel=>exact⟨k+1,by omega,by go_num,R2.out⟩
     case measure=>simp[intOf];omega
    ·have hkn':k=n:=by omega
     have avq:¬(k:Int)<n:=by omega
     have HE:Hid (Tb p b wr (Tm.aft t l)):=hide (by
      have h1:=HT.out
      rw[List.take_of_length_le (by have:=HN.out;omega)]at h1
      unfold Tm.aft
      rw[HB.out]
      exact h1)
     go_wp2
     go_ret
     exact⟨jV HB.out.symm,HE.out,aK⟩
end Go.Proofs.YtlmkaljjocflmaaGreatDoor

/- Texts. -/
import Derived.Test.YtlmkaljjocflmaaGreatDoorBH2
import Derived.Laws.BytesArg
import Derived.Test.YtlmkaljjocflmaaGreatDoorBM1
import Derived.Test.YtlmkaljjocflmaaGreatDoorBH3
import Derived.Test.YtlmkaljjocflmaaGreatDoorBH1
import Derived.Maps.OwnSet
import Derived.BigQuiet
set_option maxRecDepth 100000
set_option maxHeartbeats 8000000
set_option linter.unusedVariables false
open Go.Proofs.Tryz
namespace Go.Proofs.YtlmkaljjocflmaaGreatDoor
open Go.RowKit
theorem Is.conv {w:World}{v:Value}{zs:List Int}(h:Is .u8 w v zs){P:Program}{src e dst:TypeId}(hs:P.underlying src=some (.slice e))(he:P.underlying e=some (.int .u8))(hd:P.underlying dst=some .string):
  (convert src dst v).run P w=.ok (.string ⟨(Om.iM zs).toArray⟩) w:=by
 by_cases hz:0<zs.length
 ·obtain⟨b,o,c,rfl,_,_,_,hc⟩:=h.full hz
  exact run_convert_bytes_arg w src e hs he b o zs.length c zs rfl hc dst hd
 ·have:zs=[]:=List.eq_nil_of_length_eq_zero (by omega)
  subst this
  obtain⟨ao,c,rfl⟩:=h.bare
  cases ao with
  |none=>exact run_convert_bytes_nil w src e hs he 0 c dst hd
  |some ad=>
   rw[run_convert_bytes_string w src dst e _ 0 c hs he hd,run_bytesToString w ad 0 c [] (by have:=run_loadCells_list (P:=P) w ad [] (by simp);simpa using this)]
   rfl
theorem Is.bytes {w:World}{v:Value}{zs:List Int}(h:Is .u8 w v zs):∀z∈zs,0≤z∧z<256:=by
 intro z hz
 obtain⟨i,hi,rfl⟩:=List.getElem_of_mem hz
 have:=h.byte i
 simpa[List.getD,hi]using this
end Go.Proofs.YtlmkaljjocflmaaGreatDoor
namespace Go.Proofs.YtlmkaljjocflmaaGreatDoor
open Go.RowKit Go.Maps
open Bm (Ov)
theorem Tryz.keyed:Keyed prog 9:=string_keyed underlying9
def Ren:Value→Option (DataW Unit×List MemPlace)
 |.agg cs=>match cs.toList with
  |[.string s,.bool b]=>some (.agg [.lit (.string s.data.toList),.lit (.bool b)],[])
  |_=>none
 |_=>none
def env (v:ByteArray) (p:Bool):Value:=.agg #[.string v,.bool p]
theorem ax3 (o:Ov):Ren (env o.v o.p)=some (Tm.el o,[]):=rfl
theorem atT {v:Value}{y:DataW Unit×List MemPlace}(h:Ren v=some y):∃(s:ByteArray) (b:Bool),v=env s b∧y=(.agg [.lit (.string s.data.toList),.lit (.bool b)],[]):=by
 unfold Ren at h
 split at h
 ·rename_i cs
  split at h
  ·rename_i s b hcs
   refine⟨s,b,?_,by simpa using h.symm⟩
   obtain⟨l⟩:=cs
   simp at hcs
   subst hcs
   rfl
  ·simp at h
 ·simp at h
theorem alF {v:Value}{o:Ov}{ps:List MemPlace}(h:Ren v=some (Tm.el o,ps)):v=env o.v o.p:=by
 obtain⟨s,b,rfl,e⟩:=atT h
 simp only[Tm.el,Ov.vl,Prod.mk.injEq,DataW.agg.injEq,List.cons.injEq,DataW.lit.injEq,Lit.string.injEq,Lit.bool.injEq,and_true]at e
 obtain⟨⟨e1,e2⟩,_⟩:=e
 rw[Bm.pM e1,e2]
theorem apY {v:Value}{ps:List MemPlace}(h:Ren v=some (.agg [.lit (.string []),.lit (.bool false)],ps)):v=env ⟨#[]⟩ false:=alF (o:=⟨false,⟨#[]⟩,⟨#[]⟩⟩) h
theorem Tryz.zeroE (w:World):(zeroValue 171).run prog w=.ok (env ⟨#[]⟩ false) w:=by kernel_rfl
theorem World.ownsMap.tight {P:Program}{k:TypeId}{R:Value→Option (DataW Unit×List MemPlace)}{w:World}{b n:Nat}{D:DataW Unit}(h:w.ownsMap P k R b n D):w.ownsMap P k R b (Maps.size D) D:=by
 obtain⟨es,clock,hb,F,hs,rfl⟩:=h
 exact⟨es,clock,hb,F,by simp[Maps.size,length_sorted],rfl⟩
structure Tb (p b:Nat) (w:World) (t:List Ov):Prop where
 blk:w.heap[p]? =some (.cells #[.map (some b)] 167 (0,0))
 own:w.ownsMap prog 9 Ren b t.length (Tm.dat t)
 up:Tm.Up t
theorem Tb.plt {p b:Nat}{w:World}{t:List Ov}(h:Tb p b w t):p<w.heap.size:=ay h.blk
theorem Tb.blt {p b:Nat}{w:World}{t:List Ov}(h:Tb p b w t):b<w.heap.size:=h.own.lt
theorem Tb.agree {p b:Nat}{w w':World}{t:List Ov}(h:Tb p b w t)(h1:w'.heap[p]? =w.heap[p]?)(h2:w'.heap[b]? =w.heap[b]?):Tb p b w' t:=by
 refine⟨h1.trans h.blk,?_,h.up⟩
 obtain⟨es,clock,hb,r⟩:=h.own
 exact⟨es,clock,h2.trans hb,r⟩
theorem Tb.below {p b:Nat}{w w':World}{t:List Ov}(h:Tb p b w t)(hb:Below w.heap.size w w'):Tb p b w' t:=h.agree (hb.block p h.plt) (hb.block b h.blt)
theorem Tb.cell {p b:Nat}{w:World}{t:List Ov}(h:Tb p b w t):w.cell? ⟨p,0,none⟩=some (.map (some b)):=ai h.blk 0 rfl
theorem Tb.ne {p b:Nat}{w:World}{t:List Ov}(h:Tb p b w t):p≠b:=fun e=>by
 obtain⟨es,clock,hb,_⟩:=h.own
 have:=h.blk
 rw[e,hb]at this
 cases this
theorem Tb.row {p b:Nat}{w:World}{t:List Ov}(h:Tb p b w t){g j:Nat}{u:Value}(hc:w.cell? ⟨g,j,none⟩=some u):g≠b:=fun e=>by
 obtain⟨es,clock,hb,_⟩:=h.own
 subst e
 simp[World.cell?,hb]at hc
theorem aha (w:World)(d:Nat)(m:Option Nat):(Op.equalIn (d+1) 165 (.map m) (.map none)).run prog w=.ok m.isNone w:=by
 have h:=underlying165
 cases m<;>simp[Op.equalIn,run_underlying h]
theorem Tryz.att (w:World)(m:Option Nat):(binOp .neq 165 (.map m) (.map none)).run prog w=.ok (.bool (!m.isNone)) w:=by
 simp only[binOp]
 simp[Op.equal,Op.maxDepth,aha w 9999 m]
theorem rF (p b:Nat)(w:World)(hc:w.cell? ⟨p,0,none⟩=some (.map (some b))):
  Calls prog 93 #[.pointer (some ⟨p,0,none⟩)] w fun E w'=>E=.returned (.bool true)∧w=w':=by
 have hn:=Tryz.att w (some b)
 go_enter func93,ntmps93
 go_wp2
 go_ret
 exact⟨rfl,rfl⟩
theorem aaI (w:World):Calls prog 45 #[] w fun E w'=>E=.returned (.pointer (some ⟨w.heap.size+1,0,none⟩))∧Tb (w.heap.size+1) w.heap.size w' []∧Below w.heap.size w w':=by
 obtain⟨w1,hw1⟩:∃w1,w.alloc (.map #[] 0)=w1:=⟨_,rfl⟩
 have hm1:w1.ownsMap prog 9 Ren w.heap.size 0 (.map []):=by rw[←hw1];exact World.ownsMap_made _ _ _ _
 have aV:w1.heap.size=w.heap.size+1:=by rw[←hw1];simp
 have b1:Below w.heap.size w w1:=by rw[←hw1];exact(Below.refl _ _).alloc (Nat.le_refl _) _
 obtain⟨w2,hw2,dA,b2,B2⟩:=au w1 #[.map (some w.heap.size)] 167
 rw[aV]at B2
 rw[Bq,aV]at b2
 have H:Hid (Tb (w.heap.size+1) w.heap.size w2 []∧Below w.heap.size w w2):=hide ⟨⟨B2,by
  obtain⟨es,clock,hb,r⟩:=hm1
  exact⟨es,clock,(b2.block _ (by omega)).trans hb,r⟩,List.Pairwise.nil⟩,b1.trans (b2.mono (by omega))⟩
 have hmm:=@run_makeMap prog
 clear hm1 b1 b2 B2
 go_enter func45,ntmps45
 go_wp2
 go_ret
 exact⟨rfl,H.out⟩
def gv (t:List Ov) (k:ByteArray):ByteArray:=match Tm.get t k with|some o=>o.v|none=>⟨#[]⟩
def gp (t:List Ov) (k:ByteArray):Bool:=match Tm.get t k with|some o=>o.p|none=>false
theorem aiA {p b:Nat}{w:World}{t:List Ov}(h:Tb p b w t)(k:ByteArray)(hk:k.size≤maxLen)(c:Bool):
  (Instr.lookup 165 (.map (some b)) (.string k) c).run prog w=.ok (if c then .tuple #[env (gv t k) (gp t k),.bool (Tm.met t k)]else env (gv t k) (gp t k)) w:=by
 have hkey:keyOf prog 9 (.string k)=some (.string k.data.toList):=WideMaps.keyOf_string_mk underlying9 hk
 have hsh:∀(v:Value) (ps:List MemPlace),Ren v=some ((Tm.dat t).atKey (.string k.data.toList) (.agg [.lit (.string []),.lit (.bool false)]),ps)→v=env (gv t k) (gp t k):=fun v ps hv=>by
  rw[Tm.dat_at]at hv
  unfold gv gp
  cases e:Tm.get t k with
  |none=>rw[e]at hv;exact apY hv
  |some o=>rw[e]at hv;exact alF hv
 cases c
 ·obtain⟨v,ps,hrun,hv⟩:=h.own.lookup Tryz.keyed underlying165 (Tryz.zeroE w) (zd:=.agg [.lit (.string []),.lit (.bool false)]) (zp:=[]) rfl hkey
  rw[hrun,hsh v ps hv]
  rfl
 ·obtain⟨v,ps,hrun,hv⟩:=h.own.look_ok Tryz.keyed underlying165 (Tryz.zeroE w) (zd:=.agg [.lit (.string []),.lit (.bool false)]) (zp:=[]) rfl hkey
  rw[hrun,hsh v ps hv,Tm.atc,Tm.yO]
  rfl
theorem agm (p b:Nat)(w:World)(t:List Ov)(k:ByteArray)(h:Tb p b w t)(hk:k.size≤140737488355328):
  Calls prog 48 #[.pointer (some ⟨p,0,none⟩),.string k] w fun E w'=>E=.returned (.tuple #[.string (gv t k),.bool (Tm.met t k),.bool (gp t k)])∧Below w.heap.size w w':=by
 have hc:=h.cell
 have hl:=aiA h k (by unfold maxLen;omega) true
 simp only[if_true]at hl
 have HM:=hide (rF p b w hc)
 obtain⟨w1,hw1,aV,b1,B1⟩:=au w #[.string (gv t k),.bool (gp t k)] 171
 have c0:=ai B1 0 rfl
 have c1:=ai B1 1 rfl
 unfold env at hl
 clear h B1
 go_enter func48,ntmps48
 go_wp2_with fail
 refine HM.out.mono ?_
 rintro E w' ⟨rfl,rfl⟩
 go_wp2
 go_quiet (fail)
 go_wp2
 go_ret3
 exact⟨rfl,b1.trans (below_drewN (Below.refl _ _) _)⟩
end Go.Proofs.YtlmkaljjocflmaaGreatDoor
namespace Go.Proofs.YtlmkaljjocflmaaGreatDoor
open Go.RowKit Go.Maps
open Bm (Ov)
attribute [local go_sem] Oper.semAt_some
def ovv (o:Ov):Value:=.agg #[.bool o.p,.string o.k,.string o.v]
def Tm.aft (t l:List Ov):List Ov:=if Bm.first l=0 then Tm.app t l else t
theorem eX {W W':World}{B:Nat}(h:W'.heap[B]? =W.heap[B]?)(j:Nat):W'.cell? ⟨B,j,none⟩=W.cell? ⟨B,j,none⟩:=World.cell?_of_block (show W'.heap[(⟨B,j,none⟩:Addr).block]? =W.heap[(⟨B,j,none⟩:Addr).block]? from h)
theorem ayn {p b:Nat}{w:World}{t:List Ov}(o:Ov)(h:Tb p b w t)(hk:o.k.size≤140737488355328)(hn:t.length<140737488355328):
  ∃w',(Instr.mapUpdate 165 (.map (some b)) (.string o.k) (.agg #[.string o.v,.bool o.p])).run prog w=.ok () w'∧Tb p b w' (Tm.one t o)∧w.grownBy w' (some b):=by
 have hkey:keyOf prog 9 (.string o.k)=some (.string o.kl):=WideMaps.keyOf_string_mk underlying9 (by unfold maxLen;omega)
 obtain⟨w',h1,h2,h3⟩:=h.own.update Tryz.keyed underlying165 (by unfold maxLen;omega) hkey (ax3 o)
 refine⟨w',h1,⟨(h3.block p h.plt fun e=>h.ne (Option.some.inj e)).trans h.blk,?_,Tm.tN o h.up⟩,h3⟩
 rw[Tm.atV o h.up]at h2
 have:=World.ownsMap.tight h2
 rwa[Tm.vE]at this
theorem uW (p b:Nat)(w:World)(t:List Ov)(v:Value)(l:List Ov)(h:Tb p b w t)(hl:bM w v l)(hf:dZ l)(hn:t.length+l.length≤1000000):
  Calls prog 47 #[.pointer (some ⟨p,0,none⟩),v] w fun E w'=>E=.returned (.int .i64 (Bm.first l))∧Tb p b w' (Tm.aft t l)∧Out (fun g=>g=b) w w':=by
 have HM:=hide (rF p b w h.cell)
 obtain⟨ao,cap,hsv,hcap,hcm⟩:=hl.shape
 have iR:=hide fun(h0:0<l.length)=>hl.full h0
 subst hsv
 have HF:=hide hf
 have HT0:=hide h
 obtain⟨n,hnn⟩:∃n,l.length=n:=⟨_,rfl⟩
 rw[hnn]at iR hcap hn⊢
 have HN:=hide hnn
 have hc:=h.cell
 have hplt:=h.plt
 clear hl hf h hnn
 go_enter func47,ntmps47
 go_wp2_with fail
 refine HM.out.mono ?_
 rintro E w' ⟨rfl,rfl⟩
 go_wp2
 go_loopw [15] (fun i wr=>∃(k:Nat),k≤n∧i=.int .i64 k∧Hid (∀q∈l.take k,q.c=0)∧Below w.heap.size w wr) (fun i _=>n-(intOf i).toNat)
 case atStart=>exact⟨0,by omega,rfl,hide (by simp),Below.refl _ _⟩
 case round=>
  obtain⟨k,hk,rfl,HT,aI⟩:=hrel
  obtain⟨wa,rfl⟩:∃x,x=wr:=⟨wr,rfl⟩
  have sz:=aI.size
  by_cases hlt:k<n
  ·obtain⟨o,ho⟩:∃o,l[k]? =some o:=⟨l[k]'(by have:=HN.out;omega),by rw[List.getElem?_eq_getElem]⟩
   obtain⟨b1,o1,cq,dI,_,_,hB,hcell⟩:=iR.out (by omega)
   simp only[Value.slice.injEq,true_and]at dI
   obtain⟨rfl,rfl⟩:=dI
   obtain⟨c0,c1,c2⟩:=hcell k o ho
   have d0:=(aI.cell (p:=⟨b1,o1+k*3,none⟩) hB).trans c0
   have d1:=(aI.cell (p:=⟨b1,o1+k*3+1,none⟩) hB).trans c1
   have d2:=(aI.cell (p:=⟨b1,o1+k*3+2,none⟩) hB).trans c2
   have HO:=hide ho
   clear c0 c1 c2 ho hcell
   have hlt':(k:Int)<n:=by omega
   obtain⟨hk1,hv1⟩:=HF.out o (List.mem_of_getElem? HO.out)
   obtain⟨W1,hW1,aV,rq,B1⟩:=au wa #[.bool o.p,.string o.k,.string o.v] 71
   have e0:=ai B1 0 rfl
   have e1:=ai B1 1 rfl
   have e2:=ai B1 2 rfl
   have b01:Below w.heap.size w W1:=aI.trans (rq.mono sz)
   clear B1 rq
   go_wp2_with fail
   refine(lX o.p o.k o.v _ hk1 hv1).mono ?_
   rintro E w1 ⟨rfl,aj⟩
   have az:Below w.heap.size w w1:=b01.trans (aj.mono (by omega))
   clear aj d0 d1 d2 e0 e1 e2
   rcases(show Om.chk o.p o.k.data.toList o.v.data.toList=0∨_ from Om.yX _ _ _)with hc|hc
   ·rw[hc]
    have HT2:=hide (abV HT.out HO.out hc)
    clear hc
    go_wp2
    go_roundw
    case rel=>exact⟨k+1,by omega,by go_num,HT2,az⟩
    case measure=>simp[intOf];omega
   ·rw[hc]
    have HB:=hide (Bm.adb (List.mem_of_getElem? HO.out) (show Bm.Ov.c o≠0 by unfold Bm.Ov.c Bm.Ov.kl Bm.Ov.vl;rw[hc];simp))
    clear hc
    go_wp2
    go_ret
    refine⟨jh HB.out.symm,?_,Out.of_below az⟩
    unfold Tm.aft
    rw[HB.out]
    exact HT0.out.below az
  ·have hkn:k=n:=by omega
   have HB:Hid (Bm.first l=0):=hide (Bm.oG (fun q hq=>HT.out q (by rw[List.take_of_length_le (by have:=HN.out;omega)];exact hq)))
   have hlt':¬(k:Int)<n:=by omega
   have HT1:=hide (HT0.out.below aI)
   have akm:=hide aI
   clear hc aI
   go_wp2
   go_loopw [27] (fun i wr=>∃(k:Nat),k≤n∧i=.int .i64 k∧Hid (Tb p b wr (Tm.app t (l.take k)))∧Out (fun g=>g=b) w wr) (fun i _=>n-(intOf i).toNat)
   case atStart=>exact⟨0,by omega,rfl,HT1,Out.of_below akm.out⟩
   case round=>
    obtain⟨k,hk,rfl,HT,aI⟩:=hrel
    have sz:=aI.size
    by_cases hlt:k<n
    ·obtain⟨o,ho⟩:∃o,l[k]? =some o:=⟨l[k]'(by have:=HN.out;omega),by rw[List.getElem?_eq_getElem]⟩
     obtain⟨b1,o1,cq,dI,_,_,hB,hcell⟩:=iR.out (by omega)
     simp only[Value.slice.injEq,true_and]at dI
     obtain⟨rfl,rfl⟩:=dI
     obtain⟨c0,c1,c2⟩:=hcell k o ho
     have hbb:=HT0.out.row c0
     have hblk:=aI.block b1 hB hbb
     have d0:=(eX hblk (o1+k*3)).trans c0
     have d1:=(eX hblk (o1+k*3+1)).trans c1
     have d2:=(eX hblk (o1+k*3+2)).trans c2
     have HO:=hide ho
     clear c0 c1 c2 ho hcell hblk
     have azn:(k:Int)<n:=by omega
     obtain⟨hk1,hv1⟩:=HF.out o (List.mem_of_getElem? HO.out)
     obtain⟨W1,hW1,aV,rq,B1⟩:=au wr #[.bool o.p,.string o.k,.string o.v] 71
     have e0:=ai B1 0 rfl
     have e1:=ai B1 1 rfl
     have e2:=ai B1 2 rfl
     have T1:=HT.out.below rq
     have pc:=T1.cell
     have hlen:(Tm.app t (l.take k)).length<140737488355328:=by
      have h1:=Tm.sQ (l.take k) t
      rw[List.length_take]at h1
      omega
     obtain⟨W2,hrun,T2,g2⟩:=ayn (w:=W1.drew) o (T1.agree rfl rfl) (by omega) hlen
     have R2:Hid (Tb p b W2 (Tm.app t (l.take (k+1)))∧Out (fun g=>g=b) w W2):=hide ⟨by
      obtain⟨hk',hk2⟩:=List.getElem?_eq_some_iff.1 HO.out
      rw[List.take_succ_eq_append_getElem hk',hk2,Tm.qJ]
      exact T2,by
      have q1:Out (fun g=>g=b) w W1:=aI.trans (Out.of_below (F:=fun g=>g=b) rq) fun g hg=>.inl hg
      have q2:Out (fun g=>g=b) w W1.drew:=q1.drew 1
      exact q2.trans (Out.aM (F:=fun g=>g=b) g2 fun g hg=>by simpa using hg.symm) fun g hg=>.inl hg⟩
     clear T1 T2 g2 B1 rq aI
     go_wp2
     go_region
     go_wp2
     go_roundw
     case rel=>exact⟨k+1,by omega,by go_num,R2.out⟩
     case measure=>simp[intOf];omega
    ·have hkn':k=n:=by omega
     have azn:¬(k:Int)<n:=by omega
     have HE:Hid (Tb p b wr (Tm.aft t l)):=hide (by
      have h1:=HT.out
      rw[List.take_of_length_le (by have:=HN.out;omega)]at h1
      unfold Tm.aft
      rw[HB.out]
      exact h1)
     go_wp2
     go_ret
     exact⟨jh HB.out.symm,HE.out,aI⟩
end Go.Proofs.YtlmkaljjocflmaaGreatDoor
namespace Go.Proofs.YtlmkaljjocflmaaGreatDoor
open Go.RowKit Go.Maps
open Bm (Ov)
theorem aqC (p b:Nat)(w:World)(t:List Ov)(h:Tb p b w t):
  Calls prog 290 #[.pointer (some ⟨p,0,none⟩)] w fun E w'=>E=.returned (.int .i64 t.length)∧w=w':=by
 have hc:=h.cell
 have hl:=fun ty=>h.own.len underlying165 ty
 rw[Tm.vE]at hl
 have HM:=hide (rF p b w hc)
 clear h
 go_enter func290,ntmps290
 go_wp2_with fail
 refine HM.out.mono ?_
 rintro E w' ⟨rfl,rfl⟩
 go_wp2
 go_ret
 exact⟨rfl,rfl⟩
end Go.Proofs.YtlmkaljjocflmaaGreatDoor

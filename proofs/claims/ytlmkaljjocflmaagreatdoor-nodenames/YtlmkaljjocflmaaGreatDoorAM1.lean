/- Texts of one layer, one behind the other. -/
import Derived.Test.YtlmkaljjocflmaaGreatDoorAG1
import Derived.Maps.Ext
import Derived.Sort.KeysCollected
import Derived.Lib.SlMapEqual
set_option maxRecDepth 100000
set_option maxHeartbeats 8000000
namespace Go.Proofs.YtlmkaljjocflmaaGreatDoor.Tm
open Bm Go.Sort
def lt (a b:ByteArray):Bool:=bytesBefore a.data.toList b.data.toList
theorem pU (a:ByteArray):lt a a=false:=WideAt.bytes_irrefl _
theorem lt_trans {a b c:ByteArray}(h:lt a b=true)(k:lt b c=true):lt a c=true:=WideShapes.bytes_trans _ _ _ h k
theorem ako {a b:ByteArray}(h:lt a b=true):lt b a=false:=by
 cases e:lt b a
 ·rfl
 ·have:=lt_trans h e
  rw[pU]at this
  cases this
theorem tL {a b:ByteArray}(h:lt a b=true):a≠b:=fun e=>by rw[e,pU]at h;cases h
theorem zw {a b:ByteArray}(h:lt a b=false)(k:lt b a=false):a=b:=by
 by_cases e:a.data.toList=b.data.toList
 ·exact oh e
 ·rcases WideAt.bytes_total _ _ e with h1|h1
  ·unfold lt at h
   rw[h1]at h
   cases h
  ·unfold lt at k
   rw[h1]at k
   cases k
theorem qQ:∀(a b:List UInt8),Op.bytesLess a b=bytesBefore a b
 |_,[]=>by rename_i a;cases a<;>rfl
 |[],_::_=>rfl
 |x::a,y::b=>by rw[Op.bytesLess,bytesBefore,qQ a b]
theorem agJ (a b:ByteArray):Op.bytesLess a.toList b.toList=lt a b:=by
 rw[ByteArray.toList_eq,ByteArray.toList_eq,qQ]
 rfl
theorem eqk (a b:ByteArray):(a.toList==b.toList)=decide (a=b):=by
 rw[ByteArray.toList_eq,ByteArray.toList_eq]
 by_cases h:a=b
 ·subst h;simp
 ·have:a.data.toList≠b.data.toList:=fun e=>h (oh e)
  rw[decide_eq_false h]
  simpa using fun e:a.data=b.data=>this (by rw[e])
def Up (t:List Ov):Prop:=t.Pairwise fun x y=>lt x.k y.k=true
def one:List Ov→Ov→List Ov
 |[],o=>[o]
 |x::r,o=>if lt x.k o.k then x::one r o else if lt o.k x.k then o::x::r else o::r
theorem rq:∀{t:List Ov} (o x:Ov),Up t→(x∈one t o↔x=o∨(x∈t∧x.k≠o.k))
 |[],o,x,_=>by simp[one]
 |y::r,o,x,h=>by
  obtain⟨h1,h2⟩:=List.pairwise_cons.1 h
  rw[one]
  split
  ·rename_i hy
   rw[List.mem_cons,rq o x h2,List.mem_cons]
   constructor
   ·rintro(rfl|h|⟨h,k⟩)
    ·exact .inr ⟨.inl rfl,tL hy⟩
    ·exact .inl h
    ·exact .inr ⟨.inr h,k⟩
   ·rintro(h|⟨h|h,k⟩)
    ·exact .inr (.inl h)
    ·exact .inl h
    ·exact .inr (.inr ⟨h,k⟩)
  ·rename_i hy
   split
   ·rename_i ho
    rw[List.mem_cons]
    constructor
    ·rintro(h|h)
     ·exact .inl h
     ·refine .inr ⟨h,fun e=>?_⟩
      rcases List.mem_cons.1 h with rfl|h
      ·rw[e,pU]at ho;cases ho
      ·have:=lt_trans ho (h1 x h)
       rw[e,pU]at this
       cases this
    ·rintro(h|⟨h,_⟩)
     ·exact .inl h
     ·exact .inr h
   ·rename_i ho
    have e1:y.k=o.k:=zw (by simpa using hy) (by simpa using ho)
    rw[List.mem_cons,List.mem_cons]
    constructor
    ·rintro(h|h)
     ·exact .inl h
     ·refine .inr ⟨.inr h,fun e=>?_⟩
      have:=h1 x h
      rw[e,e1,pU]at this
      cases this
    ·rintro(h|⟨rfl|h,k⟩)
     ·exact .inl h
     ·exact absurd e1 k
     ·exact .inr h
theorem uJ:∀{t:List Ov} (o:Ov),Up t→Up (one t o)
 |[],o,_=>by simp[one,Up]
 |y::r,o,h=>by
  obtain⟨h1,h2⟩:=List.pairwise_cons.1 h
  rw[one]
  split
  ·rename_i hy
   refine List.pairwise_cons.2 ⟨fun x hx=>?_,uJ o h2⟩
   rcases(rq o x h2).1 hx with rfl|⟨hx,_⟩
   ·exact hy
   ·exact h1 x hx
  ·rename_i hy
   split
   ·rename_i ho
    refine List.pairwise_cons.2 ⟨fun x hx=>?_,h⟩
    rcases List.mem_cons.1 hx with rfl|hx
    ·exact ho
    ·exact lt_trans ho (h1 x hx)
   ·rename_i ho
    have e1:y.k=o.k:=zw (by simpa using hy) (by simpa using ho)
    refine List.pairwise_cons.2 ⟨fun x hx=>?_,h2⟩
    rw[←e1]
    exact h1 x hx
theorem agZ:∀(t:List Ov) (o:Ov),(one t o).length≤t.length+1
 |[],o=>by simp[one]
 |x::r,o=>by
  have:=agZ r o
  rw[one]
  split
  ·simp only[List.length_cons];omega
  ·split<;>simp only[List.length_cons]<;>omega
def app (t:List Ov) (l:List Ov):List Ov:=l.foldl one t
theorem xy (t:List Ov):app t []=t:=rfl
theorem aex (t l:List Ov)(o:Ov):app t (o::l)=app (one t o) l:=rfl
theorem abu (t l m:List Ov):app t (l++m)=app (app t l) m:=List.foldl_append
theorem lY (t l:List Ov)(o:Ov):app t (l++[o])=one (app t l) o:=by rw[abu];rfl
theorem aaQ:∀{t:List Ov} (l:List Ov),Up t→Up (app t l)
 |_,[],h=>h
 |_,o::l,h=>aaQ l (uJ o h)
theorem aa4:∀(l t:List Ov),(app t l).length≤t.length+l.length
 |[],t=>by simp[app]
 |o::l,t=>by
  have h1:=aa4 l (one t o)
  have h2:=agZ t o
  rw[aex,List.length_cons]
  omega
def get (t:List Ov) (k:ByteArray):Option Ov:=t.find? fun x=>decide (x.k=k)
theorem get_some {t:List Ov}{k:ByteArray}{o:Ov}(h:get t k=some o):o∈t∧o.k=k:=⟨List.mem_of_find?_eq_some h,by simpa using List.find?_some h⟩
theorem get_none {t:List Ov}{k:ByteArray}(h:get t k=none):∀x∈t,x.k≠k:=fun x hx=>by simpa using List.find?_eq_none.1 h x hx
theorem get_mem {t:List Ov}{o:Ov}(h:Up t)(ho:o∈t):get t o.k=some o:=by
 cases e:get t o.k with
 |none=>exact absurd rfl (get_none e o ho)
 |some q=>
  obtain⟨h1,h2⟩:=get_some e
  congr 1
  induction t with
  |nil=>simp at ho
  |cons x r ih=>
   obtain⟨a1,a2⟩:=List.pairwise_cons.1 h
   rcases List.mem_cons.1 ho with rfl|ho
   ·rcases List.mem_cons.1 h1 with h1|h1
    ·exact h1
    ·have:=a1 q h1
     rw[h2,pU]at this
     cases this
   ·rcases List.mem_cons.1 h1 with h1|h1
    ·have:=a1 o ho
     rw[←h1,h2,pU]at this
     cases this
    ·have e2:get r o.k=some q:=by
      unfold get at e⊢
      rw[List.find?_cons]at e
      have:decide (x.k=o.k)=false:=by
       have:=tL (a1 o ho)
       simpa using this
      rw[this]at e
      exact e
     exact ih a2 ho e2 h1
def met (t:List Ov) (k:ByteArray):Bool:=t.any fun x=>decide (x.k=k)
theorem ahj {t:List Ov}{k:ByteArray}:met t k=true↔∃x∈t,x.k=k:=by simp[met]
theorem wN (t:List Ov)(k:ByteArray):met t k=(get t k).isSome:=by
 cases e:get t k with
 |none=>
  rw[Option.isSome_none,Bool.eq_false_iff]
  intro h
  obtain⟨x,h1,h2⟩:=ahj.1 h
  exact get_none e x h1 h2
 |some o=>
  obtain⟨h1,h2⟩:=get_some e
  rw[Option.isSome_some]
  exact ahj.2 ⟨o,h1,h2⟩
def live (t:List Ov):List Ov:=t.filter Ov.p
def el (o:Ov):DataW Unit:=.agg [.lit (.string o.vl),.lit (.bool o.p)]
def en (o:Ov):Lit×DataW Unit:=(.string o.kl,el o)
def dat (t:List Ov):DataW Unit:=.map (t.map en)
theorem aoZ {a b:Ov}(h:a.k≠b.k):a.kl≠b.kl:=fun e=>h (oh e)
theorem agt (o:Ov):∀(r:List Ov),(∀x∈r,lt o.k x.k=true)→(r.map en).filter (ChangeMaps.notKey (.string o.kl))=r.map en:=fun r h=>by
 refine List.filter_eq_self.2 fun p hp=>?_
 obtain⟨x,hx,rfl⟩:=List.mem_map.1 hp
 have:=aoZ (tL (h x hx)).symm
 simp[ChangeMaps.notKey,en,Lit.sameKey,this]
theorem ak0 (o:Ov):∀(r:List Ov),(∀x∈r,lt o.k x.k=true)→DataW.insert (en o) (r.map en)=(o::r).map en
 |[],_=>rfl
 |x::r,h=>by
  have h1:(en o).1.before (en x).1=true:=h x (by simp)
  rw[List.map_cons,DataW.insert,if_pos h1]
  rfl
theorem xg:∀{t:List Ov} (o:Ov),Up t→ChangeMaps.putKey (.string o.kl) (el o) (t.map en)=(one t o).map en
 |[],o,_=>rfl
 |y::r,o,h=>by
  obtain⟨h1,h2⟩:=List.pairwise_cons.1 h
  have ih:=xg o h2
  unfold ChangeMaps.putKey at ih⊢
  rw[one]
  split
  ·rename_i hy
   have e1:ChangeMaps.notKey (.string o.kl) (en y)=true:=by
    have:=aoZ (tL hy)
    simp[ChangeMaps.notKey,en,Lit.sameKey,this]
   have e2:¬(en o).1.before (en y).1=true:=by
    have:=ako hy
    show ¬bytesBefore o.kl y.kl=true
    unfold lt at this
    unfold Ov.kl
    rw[this]
    simp
   rw[List.map_cons,List.filter_cons,if_pos e1]
   show DataW.insert (en o) _=_
   rw[DataW.insert,if_neg e2,List.map_cons]
   congr 1
  ·rename_i hy
   split
   ·rename_i ho
    have h3:∀x∈y::r,lt o.k x.k=true:=fun x hx=>by
     rcases List.mem_cons.1 hx with rfl|hx
     ·exact ho
     ·exact lt_trans ho (h1 x hx)
    rw[agt o _ h3]
    exact ak0 o _ h3
   ·rename_i ho
    have e1:y.k=o.k:=zw (by simpa using hy) (by simpa using ho)
    have e2:ChangeMaps.notKey (.string o.kl) (en y)=false:=by
     have:y.kl=o.kl:=by unfold Ov.kl;rw[e1]
     simp[ChangeMaps.notKey,en,Lit.sameKey,this]
    have h3:∀x∈r,lt o.k x.k=true:=fun x hx=>by rw[←e1];exact h1 x hx
    rw[List.map_cons,List.filter_cons,e2,agt o r h3]
    exact ak0 o r h3
theorem arw {t:List Ov}(o:Ov)(h:Up t):(dat t).put (.string o.kl) (el o)=dat (one t o):=by
 unfold dat
 rw[DataW.put_eq,xg o h]
theorem aoV (t:List Ov):Maps.size (dat t)=t.length:=by simp[dat,Maps.size]
theorem aa8 (k:ByteArray):∀(t:List Ov),(t.map en).find? (fun p=>p.1.sameKey (.string k.data.toList))=(get t k).map en
 |[]=>rfl
 |x::r=>by
  have ih:=aa8 k r
  unfold get at ih⊢
  rw[List.map_cons,List.find?_cons,List.find?_cons,ih]
  by_cases e:x.k=k
  ·have:(en x).1.sameKey (.string k.data.toList)=true:=by simp[en,Lit.sameKey,Ov.kl,e]
   rw[this]
   simp[e]
  ·have e2:x.k.data.toList≠k.data.toList:=fun h=>e (oh h)
   have:(en x).1.sameKey (.string k.data.toList)=false:=by
    show(x.k.data.toList==k.data.toList)=false
    simpa using e2
   rw[this]
   simp[e]
theorem dat_at (t:List Ov)(k:ByteArray)(z:DataW Unit):(dat t).atKey (.string k.data.toList) z=match get t k with|some o=>el o|none=>z:=by
 simp only[dat,DataW.atKey,aa8]
 cases get t k<;>rfl
theorem aqj (t:List Ov)(k:ByteArray):Maps.has (dat t) (.string k.data.toList)=(get t k).isSome:=by
 show(t.map en).any (fun p=>p.1.sameKey (.string k.data.toList))=_
 have h:=aa8 k t
 cases e:get t k with
 |none=>
  rw[e,Option.map_none,List.find?_eq_none]at h
  rw[Option.isSome_none,List.any_eq_false]
  exact h
 |some o=>
  rw[e,Option.map_some]at h
  rw[Option.isSome_some,List.any_eq_true]
  exact⟨en o,List.mem_of_find?_eq_some h,by simpa using List.find?_some h⟩
def fin (o:Ov) (s:List Ov×Bool):List Ov:=if s.2 then s.1 else s.1++[o]
end Go.Proofs.YtlmkaljjocflmaaGreatDoor.Tm
namespace Go.Proofs.YtlmkaljjocflmaaGreatDoor.Rn
set_option linter.unusedVariables false
open Vm Om Bm
def may (ah:ByteArray):List Ov→Bool
 |[]=>true
 |o::r=>decide (o.c=0)&&(Tm.lt ah o.k&&may o.k r)
def qO (ah:ByteArray):List Ov→ByteArray
 |[]=>ah
 |o::r=>qO o.k r
def chk (f u:Int) (l:List Ov):Int:=if 1024<l.length then 3 else if 1≤f∧f≤u∧u≤1048576∧may ⟨#[]⟩ l=true then 0 else 2
theorem am9 {f u:Int}{l:List Ov}(h:1024<l.length):chk f u l=3:=if_pos h
theorem iR {f u:Int}{l:List Ov}(h:¬1024<l.length)(k:1≤f∧f≤u∧u≤1048576∧may ⟨#[]⟩ l=true):chk f u l=0:=by unfold chk;rw[if_neg h,if_pos k]
theorem gL {f u:Int}{l:List Ov}(h:¬1024<l.length)(k:¬(1≤f∧f≤u∧u≤1048576∧may ⟨#[]⟩ l=true)):chk f u l=2:=by unfold chk;rw[if_neg h,if_neg k]
theorem aV {f u:Int}{l:List Ov}(h:chk f u l=0):l.length≤1024∧1≤f∧f≤u∧u≤1048576∧may ⟨#[]⟩ l=true:=by
 unfold chk at h
 split at h
 ·simp at h
 ·rename_i h1
  split at h
  ·rename_i h2
   exact⟨by omega,h2⟩
  ·simp at h
theorem qG (f u:Int)(l:List Ov):chk f u l=0∨chk f u l=2∨chk f u l=3:=by
 unfold chk
 split
 ·exact .inr (.inr rfl)
 split
 ·exact .inl rfl
 ·exact .inr (.inl rfl)
theorem abp:∀(l m:List Ov) (ah:ByteArray),may ah (l++m)=(may ah l&&may (qO ah l) m)
 |[],m,ah=>by simp[may,qO]
 |o::l,m,ah=>by simp[may,qO,abp l m,Bool.and_assoc]
theorem abN:∀(l:List Ov) (o:Ov) (ah:ByteArray),qO ah (l++[o])=o.k
 |[],_,_=>rfl
 |q::l,o,_=>abN l o q.k
theorem tH:∀{l:List Ov} {ah:ByteArray},may ah l=true→∀o∈l,o.c=0
 |[],_,_,o,ho=>by simp at ho
 |q::l,ah,h,o,ho=>by
  simp only[may,Bool.and_eq_true,decide_eq_true_eq]at h
  rcases List.mem_cons.1 ho with rfl|ho
  ·exact h.1
  ·exact tH h.2.2 o ho
theorem aju:∀{l:List Ov} {ah:ByteArray},may ah l=true→Tm.Up l∧∀o∈l,Tm.lt ah o.k=true
 |[],_,_=>⟨List.Pairwise.nil,fun o ho=>by simp at ho⟩
 |q::l,ah,h=>by
  simp only[may,Bool.and_eq_true,decide_eq_true_eq]at h
  obtain⟨h1,h2⟩:=aju h.2.2
  refine⟨List.pairwise_cons.2 ⟨fun o ho=>h2 o ho,h1⟩,fun o ho=>?_⟩
  rcases List.mem_cons.1 ho with rfl|ho
  ·exact h.2.1
  ·exact Tm.lt_trans h.2.1 (h2 o ho)
def iq:List Ov→List Int
 |[]=>[]
 |o::r=>dG o.p o.kl o.vl++iq r
theorem agK:∀(l m:List Ov),iq (l++m)=iq l++iq m
 |[],_=>rfl
 |o::l,m=>by
  show dG o.p o.kl o.vl++iq (l++m)=dG o.p o.kl o.vl++iq l++iq m
  rw[agK l m,List.append_assoc]
theorem aqY (o:Ov):iq [o]=dG o.p o.kl o.vl:=by simp[iq]
theorem an4 (l:List Ov)(o:Ov):iq (l++[o])=iq l++dG o.p o.kl o.vl:=by rw[agK,aqY]
theorem aet:∀(l m:List Ov) (bs:List Int),l.length=m.length→(∀o∈l,o.c=0)→(∀o∈m,o.c=0)→iq l<+:bs→iq m<+:bs→l=m
 |[],[],_,_,_,_,_,_=>rfl
 |[],_::_,_,h,_,_,_,_=>by simp at h
 |_::_,[],_,h,_,_,_,_=>by simp at h
 |o::l,q::m,bs,hl,h1,h2,h,g=>by
  unfold iq at h g
  rw[bN]at h g
  obtain⟨e1,e2,e3⟩:=aiQ h.1 g.1 (h1 o (by simp)) (h2 q (by simp))
  obtain rfl:=Ov.eq e1 e2 e3
  rw[aet l m _ (by simpa using hl) (fun x hx=>h1 x (by simp[hx])) (fun x hx=>h2 x (by simp[hx])) h.2 g.2]
theorem afp:∀{l:List Ov},(∀o∈l,o.c=0)→(iq l).length≤51*l.length
 |[],_=>by simp[iq]
 |o::l,h=>by
  have h1:=sW (h o (by simp))
  have h2:=afp (l:=l) fun q hq=>h q (List.mem_cons_of_mem _ hq)
  simp only[iq,List.length_append,List.length_cons]
  omega
def encR (f u:Int) (l:List Ov):List Int:=enc f.toNat++(enc u.toNat++(enc l.length++iq l))
def out (f u:Int) (l:List Ov):List Int:=if chk f u l=0 then encR f u l else []
theorem jS {f u:Int}{l:List Ov}(h:chk f u l=0):out f u l=encR f u l:=if_pos h
theorem oO {f u:Int}{l:List Ov}(h:chk f u l≠0):out f u l=[]:=if_neg h
theorem aq9 {f u:Int}{l:List Ov}(h:chk f u l=0):(encR f u l).length≤9+51*l.length:=by
 obtain⟨h1,h2,h3,h4,h5⟩:=aV h
 have a:=Cm.ib (x:=f) (by omega)
 have b:=Cm.ib (x:=u) (by omega)
 have c:(enc l.length).length≤3:=pX 2 l.length (by omega)
 have d:=afp (tH h5)
 unfold encR
 rw[List.length_append,List.length_append,List.length_append]
 omega
theorem zP {f u:Int}{l:List Ov}(h:chk f u l=0):(encR f u l).length≤52233:=by
 have:=aq9 h
 have:=(aV h).1
 omega
theorem uY (f u:Int)(l:List Ov):(out f u l).length≤52233:=by
 unfold out
 split
 ·exact zP (by assumption)
 ·simp
theorem parts {f u:Int}{l:List Ov}{bs:List Int}(h:encR f u l<+:bs):enc f.toNat<+:bs∧enc u.toNat<+:bs.drop (sz f.toNat)∧enc l.length<+:bs.drop (sz f.toNat+sz u.toNat)∧
  iq l<+:bs.drop (sz f.toNat+sz u.toNat+sz l.length):=by
 unfold encR at h
 rw[bN,bN,bN,List.drop_drop,List.drop_drop]at h
 exact h
def No (bs:List Int):Prop:=∀f u l,chk f u l=0→encR f u l≠bs
theorem avu {bs:List Int}{x y:Nat}{l:List Ov}(hx:enc x<+:bs)(hy:enc y<+:bs.drop (sz x))(hm:enc l.length<+:bs.drop (sz x+sz y))(hl:iq l<+:bs.drop (sz x+sz y+sz l.length))(hc:∀o∈l,o.c=0)
  {f u:Int} {r:List Ov} (hr:chk f u r=0) (he:encR f u r<+:bs):f=x∧u=y∧r=l:=by
 obtain⟨h1,h2,h3,h4,h5⟩:=aV hr
 obtain⟨p1,p2,p3,p4⟩:=parts he
 have ex:=cz _ _ _ hx p1
 rw[←ex]at p2 p3 p4
 have ey:=cz _ _ _ hy p2
 rw[←ey]at p3 p4
 have em:=cz _ _ _ hm p3
 rw[←em]at p4
 exact⟨by omega,by omega,(aet l r _ em hc (tH h5) hl p4).symm⟩
theorem aeT {f u f' u':Int}{l l':List Ov}{bs:List Int}(h:chk f u l=0)(h':chk f' u' l'=0)(he:encR f u l<+:bs)(he':encR f' u' l'<+:bs):f'=f∧u'=u∧l'=l:=by
 obtain⟨h1,h2,h3,h4,h5⟩:=aV h
 obtain⟨p1,p2,p3,p4⟩:=parts he
 obtain⟨e1,e2,e3⟩:=avu p1 p2 p3 p4 (tH h5) h' he'
 exact⟨by omega,by omega,e3⟩
def Dc (bs:List Int) (f u:Int) (l:List Ov) (g:Int):Prop:=(g=0∧chk f u l=0∧encR f u l=bs)∨(g=5∧f=0∧u=0∧l=[]∧No bs)
theorem aaf {bs:List Int}{f u f' u' g g':Int}{l l':List Ov}(h:Dc bs f u l g)(k:Dc bs f' u' l' g'):f=f'∧u=u'∧l=l'∧g=g':=by
 rcases h with⟨rfl,h1,h2⟩|⟨rfl,rfl,rfl,rfl,h1⟩
 ·rcases k with⟨rfl,k1,k2⟩|⟨rfl,rfl,rfl,rfl,k1⟩
  ·obtain⟨a,b,c⟩:=aeT k1 h1 (bs:=bs) (k2▸List.prefix_rfl) (h2▸List.prefix_rfl)
   exact⟨a,b,c,rfl⟩
  ·exact absurd h2 (k1 _ _ _ h1)
 ·rcases k with⟨rfl,k1,k2⟩|⟨rfl,rfl,rfl,rfl,k1⟩
  ·exact absurd k2 (h1 _ _ _ k1)
  ·exact⟨rfl,rfl,rfl,rfl⟩
theorem afC {f u:Int}{l:List Ov}(h:chk f u l=0):Dc (encR f u l) f u l 0:=.inl ⟨rfl,h,rfl⟩
end Go.Proofs.YtlmkaljjocflmaaGreatDoor.Rn

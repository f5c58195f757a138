/- Texts. -/
import Derived.Test.YtlmkaljjocflmaaGreatDoorBG1
import Derived.Maps.Ext
import Derived.Sort.KeysCollected
import Derived.Lib.SlMapEqual
set_option maxRecDepth 100000
set_option maxHeartbeats 8000000
set_option linter.unusedVariables false
namespace Go.Proofs.YtlmkaljjocflmaaGreatDoor.Tm
open Bm Go.Sort
def lt (a b:ByteArray):Bool:=bytesBefore a.data.toList b.data.toList
theorem kW (a:ByteArray):lt a a=false:=WideAt.bytes_irrefl _
theorem lt_trans {a b c:ByteArray}(h:lt a b=true)(k:lt b c=true):lt a c=true:=WideShapes.bytes_trans _ _ _ h k
theorem anG {a b:ByteArray}(h:lt a b=true):lt b a=false:=by
 cases e:lt b a
 ·rfl
 ·have:=lt_trans h e
  rw[kW]at this
  cases this
theorem uA {a b:ByteArray}(h:lt a b=true):a≠b:=fun e=>by rw[e,kW]at h;cases h
theorem abm {a b:ByteArray}(h:lt a b=false)(k:lt b a=false):a=b:=by
 by_cases e:a.data.toList=b.data.toList
 ·exact pM e
 ·rcases WideAt.bytes_total _ _ e with h1|h1
  ·unfold lt at h
   rw[h1]at h
   cases h
  ·unfold lt at k
   rw[h1]at k
   cases k
theorem nE:∀(a b:List UInt8),Op.bytesLess a b=bytesBefore a b
 |_,[]=>by rename_i a;cases a<;>rfl
 |[],_::_=>rfl
 |x::a,y::b=>by rw[Op.bytesLess,bytesBefore,nE a b]
theorem ahQ (a b:ByteArray):Op.bytesLess a.toList b.toList=lt a b:=by
 rw[ByteArray.toList_eq,ByteArray.toList_eq,nE]
 rfl
theorem eqk (a b:ByteArray):(a.toList==b.toList)=decide (a=b):=by
 rw[ByteArray.toList_eq,ByteArray.toList_eq]
 by_cases h:a=b
 ·subst h;simp
 ·have:a.data.toList≠b.data.toList:=fun e=>h (pM e)
  rw[decide_eq_false h]
  simpa using fun e:a.data=b.data=>this (by rw[e])
def Up (t:List Ov):Prop:=t.Pairwise fun x y=>lt x.k y.k=true
def one:List Ov→Ov→List Ov
 |[],o=>[o]
 |x::r,o=>if lt x.k o.k then x::one r o else if lt o.k x.k then o::x::r else o::r
theorem qf:∀{t:List Ov} (o x:Ov),Up t→(x∈one t o↔x=o∨(x∈t∧x.k≠o.k))
 |[],o,x,_=>by simp[one]
 |y::r,o,x,h=>by
  obtain⟨h1,h2⟩:=List.pairwise_cons.1 h
  rw[one]
  split
  ·rename_i hy
   rw[List.mem_cons,qf o x h2,List.mem_cons]
   constructor
   ·rintro(rfl|h|⟨h,k⟩)
    ·exact .inr ⟨.inl rfl,uA hy⟩
    ·exact .inl h
    ·exact .inr ⟨.inr h,k⟩
   ·rintro(h|⟨h|h,k⟩)
    ·exact .inr (.inl h)
    ·exact .inl h
    ·exact .inr (.inr ⟨h,k⟩)
  ·rename_i hy
   split
   ·rename_i ho
    rw[List.mem_cons]
    constructor
    ·rintro(h|h)
     ·exact .inl h
     ·refine .inr ⟨h,fun e=>?_⟩
      rcases List.mem_cons.1 h with rfl|h
      ·rw[e,kW]at ho;cases ho
      ·have:=lt_trans ho (h1 x h)
       rw[e,kW]at this
       cases this
    ·rintro(h|⟨h,_⟩)
     ·exact .inl h
     ·exact .inr h
   ·rename_i ho
    have e1:y.k=o.k:=abm (by simpa using hy) (by simpa using ho)
    rw[List.mem_cons,List.mem_cons]
    constructor
    ·rintro(h|h)
     ·exact .inl h
     ·refine .inr ⟨.inr h,fun e=>?_⟩
      have:=h1 x h
      rw[e,e1,kW]at this
      cases this
    ·rintro(h|⟨rfl|h,k⟩)
     ·exact .inl h
     ·exact absurd e1 k
     ·exact .inr h
theorem tN:∀{t:List Ov} (o:Ov),Up t→Up (one t o)
 |[],o,_=>by simp[one,Up]
 |y::r,o,h=>by
  obtain⟨h1,h2⟩:=List.pairwise_cons.1 h
  rw[one]
  split
  ·rename_i hy
   refine List.pairwise_cons.2 ⟨fun x hx=>?_,tN o h2⟩
   rcases(qf o x h2).1 hx with rfl|⟨hx,_⟩
   ·exact hy
   ·exact h1 x hx
  ·rename_i hy
   split
   ·rename_i ho
    refine List.pairwise_cons.2 ⟨fun x hx=>?_,h⟩
    rcases List.mem_cons.1 hx with rfl|hx
    ·exact ho
    ·exact lt_trans ho (h1 x hx)
   ·rename_i ho
    have e1:y.k=o.k:=abm (by simpa using hy) (by simpa using ho)
    refine List.pairwise_cons.2 ⟨fun x hx=>?_,h2⟩
    rw[←e1]
    exact h1 x hx
theorem alD:∀{a b:List Ov},Up a→Up b→(∀x,x∈a↔x∈b)→a=b
 |[],[],_,_,_=>rfl
 |[],y::s,_,_,h=>by have:=(h y).2 (by simp);simp at this
 |x::r,[],_,_,h=>by have:=(h x).1 (by simp);simp at this
 |x::r,y::s,ha,hb,h=>by
  obtain⟨a1,a2⟩:=List.pairwise_cons.1 ha
  obtain⟨b1,b2⟩:=List.pairwise_cons.1 hb
  have hxy:x=y:=by
   rcases List.mem_cons.1 ((h x).1 (by simp))with e|hx
   ·exact e
   ·rcases List.mem_cons.1 ((h y).2 (by simp))with e|hy
    ·exact e.symm
    ·have:=lt_trans (a1 y hy) (b1 x hx)
     rw[kW]at this
     cases this
  subst hxy
  have nr:∀z∈r,z≠x:=fun z hz e=>by
   have:=a1 z hz
   rw[e,kW]at this
   cases this
  have ns:∀z∈s,z≠x:=fun z hz e=>by
   have:=b1 z hz
   rw[e,kW]at this
   cases this
  rw[alD a2 b2 fun z=>⟨fun hz=>by
   rcases List.mem_cons.1 ((h z).1 (by simp[hz]))with e|e
   ·exact absurd e (nr z hz)
   ·exact e,fun hz=>by
   rcases List.mem_cons.1 ((h z).2 (by simp[hz]))with e|e
   ·exact absurd e (ns z hz)
   ·exact e⟩]
theorem ahV:∀(t:List Ov) (o:Ov),(one t o).length≤t.length+1
 |[],o=>by simp[one]
 |x::r,o=>by
  have:=ahV r o
  rw[one]
  split
  ·simp only[List.length_cons];omega
  ·split<;>simp only[List.length_cons]<;>omega
def app (t:List Ov) (l:List Ov):List Ov:=l.foldl one t
theorem afC (t l:List Ov)(o:Ov):app t (o::l)=app (one t o) l:=rfl
theorem yG (t l m:List Ov):app t (l++m)=app (app t l) m:=List.foldl_append
theorem qJ (t l:List Ov)(o:Ov):app t (l++[o])=one (app t l) o:=by rw[yG];rfl
theorem qU:∀{t:List Ov} (l:List Ov),Up t→Up (app t l)
 |_,[],h=>h
 |_,o::l,h=>qU l (tN o h)
theorem sQ:∀(l t:List Ov),(app t l).length≤t.length+l.length
 |[],t=>by simp[app]
 |o::l,t=>by
  have h1:=sQ l (one t o)
  have h2:=ahV t o
  rw[afC,List.length_cons]
  omega
theorem ais:∀{t:List Ov} (l:List Ov) (x:Ov),Up t→x∈app t l→x∈t∨x∈l
 |_,[],x,_,h=>.inl h
 |t,o::l,x,hu,h=>by
  rcases ais l x (tN o hu) h with h|h
  ·rcases(qf o x hu).1 h with h|⟨h,_⟩
   ·exact .inr (by rw[h];simp)
   ·exact .inl h
  ·exact .inr (by simp[h])
def get (t:List Ov) (k:ByteArray):Option Ov:=t.find? fun x=>decide (x.k=k)
theorem get_some {t:List Ov}{k:ByteArray}{o:Ov}(h:get t k=some o):o∈t∧o.k=k:=⟨List.mem_of_find?_eq_some h,by simpa using List.find?_some h⟩
theorem get_none {t:List Ov}{k:ByteArray}(h:get t k=none):∀x∈t,x.k≠k:=fun x hx=>by simpa using List.find?_eq_none.1 h x hx
theorem get_mem {t:List Ov}{o:Ov}(h:Up t)(ho:o∈t):get t o.k=some o:=by
 cases e:get t o.k with
 |none=>exact absurd rfl (get_none e o ho)
 |some q=>
  obtain⟨h1,h2⟩:=get_some e
  congr 1
  induction t with
  |nil=>simp at ho
  |cons x r ih=>
   obtain⟨a1,a2⟩:=List.pairwise_cons.1 h
   rcases List.mem_cons.1 ho with rfl|ho
   ·rcases List.mem_cons.1 h1 with h1|h1
    ·exact h1
    ·have:=a1 q h1
     rw[h2,kW]at this
     cases this
   ·rcases List.mem_cons.1 h1 with h1|h1
    ·have:=a1 o ho
     rw[←h1,h2,kW]at this
     cases this
    ·have e2:get r o.k=some q:=by
      unfold get at e⊢
      rw[List.find?_cons]at e
      have:decide (x.k=o.k)=false:=by
       have:=uA (a1 o ho)
       simpa using this
      rw[this]at e
      exact e
     exact ih a2 ho e2 h1
def met (t:List Ov) (k:ByteArray):Bool:=t.any fun x=>decide (x.k=k)
theorem ah2 {t:List Ov}{k:ByteArray}:met t k=true↔∃x∈t,x.k=k:=by simp[met]
theorem yO (t:List Ov)(k:ByteArray):met t k=(get t k).isSome:=by
 cases e:get t k with
 |none=>
  rw[Option.isSome_none,Bool.eq_false_iff]
  intro h
  obtain⟨x,h1,h2⟩:=ah2.1 h
  exact get_none e x h1 h2
 |some o=>
  obtain⟨h1,h2⟩:=get_some e
  rw[Option.isSome_some]
  exact ah2.2 ⟨o,h1,h2⟩
def el (o:Ov):DataW Unit:=.agg [.lit (.string o.vl),.lit (.bool o.p)]
def en (o:Ov):Lit×DataW Unit:=(.string o.kl,el o)
def dat (t:List Ov):DataW Unit:=.map (t.map en)
theorem asF {a b:Ov}(h:a.k≠b.k):a.kl≠b.kl:=fun e=>h (pM e)
theorem aim (o:Ov):∀(r:List Ov),(∀x∈r,lt o.k x.k=true)→(r.map en).filter (ChangeMaps.notKey (.string o.kl))=r.map en:=fun r h=>by
 refine List.filter_eq_self.2 fun p hp=>?_
 obtain⟨x,hx,rfl⟩:=List.mem_map.1 hp
 have:=asF (uA (h x hx)).symm
 simp[ChangeMaps.notKey,en,Lit.sameKey,this]
theorem amW (o:Ov):∀(r:List Ov),(∀x∈r,lt o.k x.k=true)→DataW.insert (en o) (r.map en)=(o::r).map en
 |[],_=>rfl
 |x::r,h=>by
  have h1:(en o).1.before (en x).1=true:=h x (by simp)
  rw[List.map_cons,DataW.insert,if_pos h1]
  rfl
theorem yM:∀{t:List Ov} (o:Ov),Up t→ChangeMaps.putKey (.string o.kl) (el o) (t.map en)=(one t o).map en
 |[],o,_=>rfl
 |y::r,o,h=>by
  obtain⟨h1,h2⟩:=List.pairwise_cons.1 h
  have ih:=yM o h2
  unfold ChangeMaps.putKey at ih⊢
  rw[one]
  split
  ·rename_i hy
   have e1:ChangeMaps.notKey (.string o.kl) (en y)=true:=by
    have:=asF (uA hy)
    simp[ChangeMaps.notKey,en,Lit.sameKey,this]
   have e2:¬(en o).1.before (en y).1=true:=by
    have:=anG hy
    show ¬bytesBefore o.kl y.kl=true
    unfold lt at this
    unfold Ov.kl
    rw[this]
    simp
   rw[List.map_cons,List.filter_cons,if_pos e1]
   show DataW.insert (en o) _=_
   rw[DataW.insert,if_neg e2,List.map_cons]
   congr 1
  ·rename_i hy
   split
   ·rename_i ho
    have h3:∀x∈y::r,lt o.k x.k=true:=fun x hx=>by
     rcases List.mem_cons.1 hx with rfl|hx
     ·exact ho
     ·exact lt_trans ho (h1 x hx)
    rw[aim o _ h3]
    exact amW o _ h3
   ·rename_i ho
    have e1:y.k=o.k:=abm (by simpa using hy) (by simpa using ho)
    have e2:ChangeMaps.notKey (.string o.kl) (en y)=false:=by
     have:y.kl=o.kl:=by unfold Ov.kl;rw[e1]
     simp[ChangeMaps.notKey,en,Lit.sameKey,this]
    have h3:∀x∈r,lt o.k x.k=true:=fun x hx=>by rw[←e1];exact h1 x hx
    rw[List.map_cons,List.filter_cons,e2,aim o r h3]
    exact amW o r h3
theorem atV {t:List Ov}(o:Ov)(h:Up t):(dat t).put (.string o.kl) (el o)=dat (one t o):=by
 unfold dat
 rw[DataW.put_eq,yM o h]
theorem vE (t:List Ov):Maps.size (dat t)=t.length:=by simp[dat,Maps.size]
theorem ab8 (k:ByteArray):∀(t:List Ov),(t.map en).find? (fun p=>p.1.sameKey (.string k.data.toList))=(get t k).map en
 |[]=>rfl
 |x::r=>by
  have ih:=ab8 k r
  unfold get at ih⊢
  rw[List.map_cons,List.find?_cons,List.find?_cons,ih]
  by_cases e:x.k=k
  ·have:(en x).1.sameKey (.string k.data.toList)=true:=by simp[en,Lit.sameKey,Ov.kl,e]
   rw[this]
   simp[e]
  ·have e2:x.k.data.toList≠k.data.toList:=fun h=>e (pM h)
   have:(en x).1.sameKey (.string k.data.toList)=false:=by
    show(x.k.data.toList==k.data.toList)=false
    simpa using e2
   rw[this]
   simp[e]
theorem dat_at (t:List Ov)(k:ByteArray)(z:DataW Unit):(dat t).atKey (.string k.data.toList) z=match get t k with|some o=>el o|none=>z:=by
 simp only[dat,DataW.atKey,ab8]
 cases get t k<;>rfl
theorem atc (t:List Ov)(k:ByteArray):Maps.has (dat t) (.string k.data.toList)=(get t k).isSome:=by
 show(t.map en).any (fun p=>p.1.sameKey (.string k.data.toList))=_
 have h:=ab8 k t
 cases e:get t k with
 |none=>
  rw[e,Option.map_none,List.find?_eq_none]at h
  rw[Option.isSome_none,List.any_eq_false]
  exact h
 |some o=>
  rw[e,Option.map_some]at h
  rw[Option.isSome_some,List.any_eq_true]
  exact⟨en o,List.mem_of_find?_eq_some h,by simpa using List.find?_some h⟩
theorem afH (t:List Ov):strKeys (dat t)=t.map Ov.kl:=by
 show((t.map en).map fun p=>strOf p.1)=_
 rw[List.map_map]
 rfl
theorem ar8:∀(a b:List UInt8),bytesBefore a b=true→a≤b
 |[],_,_=>List.nil_le _
 |_::_,[],h=>by cases h
 |x::a,y::b,h=>by
  rw[bytesBefore,Bool.or_eq_true,Bool.and_eq_true,decide_eq_true_eq,beq_iff_eq]at h
  rcases h with h|⟨rfl,h⟩
  ·exact List.le_of_lt (List.cons_lt_cons_iff.2 (.inl h))
  ·exact List.cons_le_cons_iff.2 (.inr ⟨rfl,ar8 a b h⟩)
theorem akH {t:List Ov}(h:Up t){ss:List (List UInt8)}(hp:ss.Perm (strKeys (dat t))):ss.mergeSort (fun x y=>decide (x≤y))=t.map Ov.kl:=by
 rw[afH]at hp
 rw[mergeSort_of_perm hp]
 refine List.mergeSort_of_pairwise ?_
 rw[List.pairwise_map]
 exact h.imp fun {x y} hxy=>decide_eq_true (ar8 _ _ hxy)
end Go.Proofs.YtlmkaljjocflmaaGreatDoor.Tm
namespace Go.Proofs.YtlmkaljjocflmaaGreatDoor.Rn
open Vm Om Bm
def may (ah:ByteArray):List Ov→Bool
 |[]=>true
 |o::r=>decide (o.c=0)&&(Tm.lt ah o.k&&may o.k r)
def sK (ah:ByteArray):List Ov→ByteArray
 |[]=>ah
 |o::r=>sK o.k r
def chk (f u:Int) (l:List Ov):Int:=if 1024<l.length then 3 else if 1≤f∧f≤u∧u≤1048576∧may ⟨#[]⟩ l=true then 0 else 2
theorem ao0 {f u:Int}{l:List Ov}(h:1024<l.length):chk f u l=3:=if_pos h
theorem iV {f u:Int}{l:List Ov}(h:¬1024<l.length)(k:1≤f∧f≤u∧u≤1048576∧may ⟨#[]⟩ l=true):chk f u l=0:=by unfold chk;rw[if_neg h,if_pos k]
theorem iA {f u:Int}{l:List Ov}(h:¬1024<l.length)(k:¬(1≤f∧f≤u∧u≤1048576∧may ⟨#[]⟩ l=true)):chk f u l=2:=by unfold chk;rw[if_neg h,if_neg k]
theorem bJ {f u:Int}{l:List Ov}(h:chk f u l=0):l.length≤1024∧1≤f∧f≤u∧u≤1048576∧may ⟨#[]⟩ l=true:=by
 unfold chk at h
 split at h
 ·simp at h
 ·rename_i h1
  split at h
  ·rename_i h2
   exact⟨by omega,h2⟩
  ·simp at h
theorem acM:∀(l m:List Ov) (ah:ByteArray),may ah (l++m)=(may ah l&&may (sK ah l) m)
 |[],m,ah=>by simp[may,sK]
 |o::l,m,ah=>by simp[may,sK,acM l m,Bool.and_assoc]
theorem ac0:∀(l:List Ov) (o:Ov) (ah:ByteArray),sK ah (l++[o])=o.k
 |[],_,_=>rfl
 |q::l,o,_=>ac0 l o q.k
theorem yP:∀{l:List Ov} {ah:ByteArray},may ah l=true→∀o∈l,o.c=0
 |[],_,_,o,ho=>by simp at ho
 |q::l,ah,h,o,ho=>by
  simp only[may,Bool.and_eq_true,decide_eq_true_eq]at h
  rcases List.mem_cons.1 ho with rfl|ho
  ·exact h.1
  ·exact yP h.2.2 o ho
theorem ank:∀{l:List Ov} {ah:ByteArray},may ah l=true→Tm.Up l∧∀o∈l,Tm.lt ah o.k=true
 |[],_,_=>⟨List.Pairwise.nil,fun o ho=>by simp at ho⟩
 |q::l,ah,h=>by
  simp only[may,Bool.and_eq_true,decide_eq_true_eq]at h
  obtain⟨h1,h2⟩:=ank h.2.2
  refine⟨List.pairwise_cons.2 ⟨fun o ho=>h2 o ho,h1⟩,fun o ho=>?_⟩
  rcases List.mem_cons.1 ho with rfl|ho
  ·exact h.2.1
  ·exact Tm.lt_trans h.2.1 (h2 o ho)
theorem agR:∀{l:List Ov} {ah:ByteArray},(∀o∈l,o.c=0)→Tm.Up l→(∀o∈l,Tm.lt ah o.k=true)→may ah l=true
 |[],_,_,_,_=>rfl
 |q::l,ah,h1,h2,h3=>by
  obtain⟨g1,g2⟩:=List.pairwise_cons.1 h2
  simp only[may,Bool.and_eq_true,decide_eq_true_eq]
  exact⟨h1 q (by simp),h3 q (by simp),agR (fun o ho=>h1 o (by simp[ho])) g2 fun o ho=>g1 o ho⟩
theorem atJ {k:ByteArray}(h:1≤k.data.toList.length):Tm.lt ⟨#[]⟩ k=true:=by
 unfold Tm.lt
 rw[←Tm.nE]
 cases hk:k.data.toList with
 |nil=>rw[hk]at h;simp at h
 |cons x r=>rfl
theorem atH {o:Ov}(h:o.c=0):1≤o.k.data.toList.length:=(gU h).1
theorem awj {l:List Ov}(h:∀o∈l,o.c=0)(hu:Tm.Up l):may ⟨#[]⟩ l=true:=agR h hu fun o ho=>atJ (atH (h o ho))
def jw:List Ov→List Int
 |[]=>[]
 |o::r=>eT o.p o.kl o.vl++jw r
theorem ahZ:∀(l m:List Ov),jw (l++m)=jw l++jw m
 |[],_=>rfl
 |o::l,m=>by
  show eT o.p o.kl o.vl++jw (l++m)=eT o.p o.kl o.vl++jw l++jw m
  rw[ahZ l m,List.append_assoc]
theorem atQ (o:Ov):jw [o]=eT o.p o.kl o.vl:=by simp[jw]
theorem aol (l:List Ov)(o:Ov):jw (l++[o])=jw l++eT o.p o.kl o.vl:=by rw[ahZ,atQ]
theorem af3:∀{l:List Ov},(∀o∈l,o.c=0)→(jw l).length≤51*l.length
 |[],_=>by simp[jw]
 |o::l,h=>by
  have h1:=uV (h o (by simp))
  have h2:=af3 (l:=l) fun q hq=>h q (List.mem_cons_of_mem _ hq)
  simp only[jw,List.length_append,List.length_cons]
  omega
def encR (f u:Int) (l:List Ov):List Int:=enc f.toNat++(enc u.toNat++(enc l.length++jw l))
def out (f u:Int) (l:List Ov):List Int:=if chk f u l=0 then encR f u l else []
theorem kX {f u:Int}{l:List Ov}(h:chk f u l=0):out f u l=encR f u l:=if_pos h
theorem tO {f u:Int}{l:List Ov}(h:chk f u l≠0):out f u l=[]:=if_neg h
theorem atY {f u:Int}{l:List Ov}(h:chk f u l=0):(encR f u l).length≤9+51*l.length:=by
 obtain⟨h1,h2,h3,h4,h5⟩:=bJ h
 have a:=Cm.jr (x:=f) (by omega)
 have b:=Cm.jr (x:=u) (by omega)
 have c:(enc l.length).length≤3:=uq 2 l.length (by omega)
 have d:=af3 (yP h5)
 unfold encR
 rw[List.length_append,List.length_append,List.length_append]
 omega
theorem abL {f u:Int}{l:List Ov}(h:chk f u l=0):(encR f u l).length≤52233:=by
 have:=atY h
 have:=(bJ h).1
 omega
theorem xq (f u:Int)(l:List Ov):(out f u l).length≤52233:=by
 unfold out
 split
 ·exact abL (by assumption)
 ·simp
def No (bs:List Int):Prop:=∀f u l,chk f u l=0→encR f u l≠bs
end Go.Proofs.YtlmkaljjocflmaaGreatDoor.Rn

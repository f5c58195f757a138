/- Texts of one layer, one behind the other. -/
import Derived.Test.YtpifdeoepppadaaGreatDoorG1
import Derived.Maps.Ext
import Derived.Sort.KeysCollected
import Derived.Lib.SlMapEqual
set_option maxRecDepth 100000
set_option maxHeartbeats 8000000
namespace Go.Proofs.YtpifdeoepppadaaGreatDoor.Tm
open Bm Go.Sort
def lt (a b:ByteArray):Bool:=bytesBefore a.data.toList b.data.toList
theorem lD (a:ByteArray):lt a a=false:=WideAt.bytes_irrefl _
theorem lt_trans {a b c:ByteArray}(h:lt a b=true)(k:lt b c=true):lt a c=true:=WideShapes.bytes_trans _ _ _ h k
theorem amM {a b:ByteArray}(h:lt a b=true):lt b a=false:=by
 cases e:lt b a
 ·rfl
 ·have:=lt_trans h e
  rw[lD]at this
  cases this
theorem vS {a b:ByteArray}(h:lt a b=true):a≠b:=fun e=>by rw[e,lD]at h;cases h
theorem abA {a b:ByteArray}(h:lt a b=false)(k:lt b a=false):a=b:=by
 by_cases e:a.data.toList=b.data.toList
 ·exact qA e
 ·rcases WideAt.bytes_total _ _ e with h1|h1
  ·unfold lt at h
   rw[h1]at h
   cases h
  ·unfold lt at k
   rw[h1]at k
   cases k
theorem oD:∀(a b:List UInt8),Op.bytesLess a b=bytesBefore a b
 |_,[]=>by rename_i a;cases a<;>rfl
 |[],_::_=>rfl
 |x::a,y::b=>by rw[Op.bytesLess,bytesBefore,oD a b]
theorem ajC (a b:ByteArray):Op.bytesLess a.toList b.toList=lt a b:=by
 rw[ByteArray.toList_eq,ByteArray.toList_eq,oD]
 rfl
theorem eqk (a b:ByteArray):(a.toList==b.toList)=decide (a=b):=by
 rw[ByteArray.toList_eq,ByteArray.toList_eq]
 by_cases h:a=b
 ·subst h;simp
 ·have:a.data.toList≠b.data.toList:=fun e=>h (qA e)
  rw[decide_eq_false h]
  simpa using fun e:a.data=b.data=>this (by rw[e])
def Up (t:List Ov):Prop:=t.Pairwise fun x y=>lt x.k y.k=true
def one:List Ov→Ov→List Ov
 |[],o=>[o]
 |x::r,o=>if lt x.k o.k then x::one r o else if lt o.k x.k then o::x::r else o::r
theorem qI:∀{t:List Ov} (o x:Ov),Up t→(x∈one t o↔x=o∨(x∈t∧x.k≠o.k))
 |[],o,x,_=>by simp[one]
 |y::r,o,x,h=>by
  obtain⟨h1,h2⟩:=List.pairwise_cons.1 h
  rw[one]
  split
  ·rename_i hy
   rw[List.mem_cons,qI o x h2,List.mem_cons]
   constructor
   ·rintro(rfl|h|⟨h,k⟩)
    ·exact .inr ⟨.inl rfl,vS hy⟩
    ·exact .inl h
    ·exact .inr ⟨.inr h,k⟩
   ·rintro(h|⟨h|h,k⟩)
    ·exact .inr (.inl h)
    ·exact .inl h
    ·exact .inr (.inr ⟨h,k⟩)
  ·rename_i hy
   split
   ·rename_i ho
    rw[List.mem_cons]
    constructor
    ·rintro(h|h)
     ·exact .inl h
     ·refine .inr ⟨h,fun e=>?_⟩
      rcases List.mem_cons.1 h with rfl|h
      ·rw[e,lD]at ho;cases ho
      ·have:=lt_trans ho (h1 x h)
       rw[e,lD]at this
       cases this
    ·rintro(h|⟨h,_⟩)
     ·exact .inl h
     ·exact .inr h
   ·rename_i ho
    have e1:y.k=o.k:=abA (by simpa using hy) (by simpa using ho)
    rw[List.mem_cons,List.mem_cons]
    constructor
    ·rintro(h|h)
     ·exact .inl h
     ·refine .inr ⟨.inr h,fun e=>?_⟩
      have:=h1 x h
      rw[e,e1,lD]at this
      cases this
    ·rintro(h|⟨rfl|h,k⟩)
     ·exact .inl h
     ·exact absurd e1 k
     ·exact .inr h
theorem vG:∀{t:List Ov} (o:Ov),Up t→Up (one t o)
 |[],o,_=>by simp[one,Up]
 |y::r,o,h=>by
  obtain⟨h1,h2⟩:=List.pairwise_cons.1 h
  rw[one]
  split
  ·rename_i hy
   refine List.pairwise_cons.2 ⟨fun x hx=>?_,vG o h2⟩
   rcases(qI o x h2).1 hx with rfl|⟨hx,_⟩
   ·exact hy
   ·exact h1 x hx
  ·rename_i hy
   split
   ·rename_i ho
    refine List.pairwise_cons.2 ⟨fun x hx=>?_,h⟩
    rcases List.mem_cons.1 hx with rfl|hx
    ·exact ho
    ·exact lt_trans ho (h1 x hx)
   ·rename_i ho
    have e1:y.k=o.k:=abA (by simpa using hy) (by simpa using ho)
    refine List.pairwise_cons.2 ⟨fun x hx=>?_,h2⟩
    rw[←e1]
    exact h1 x hx
theorem anu:∀{a b:List Ov},Up a→Up b→(∀x,x∈a↔x∈b)→a=b
 |[],[],_,_,_=>rfl
 |[],y::s,_,_,h=>by have:=(h y).2 (by simp);simp at this
 |x::r,[],_,_,h=>by have:=(h x).1 (by simp);simp at this
 |x::r,y::s,ha,hb,h=>by
  obtain⟨a1,a2⟩:=List.pairwise_cons.1 ha
  obtain⟨b1,b2⟩:=List.pairwise_cons.1 hb
  have hxy:x=y:=by
   rcases List.mem_cons.1 ((h x).1 (by simp))with e|hx
   ·exact e
   ·rcases List.mem_cons.1 ((h y).2 (by simp))with e|hy
    ·exact e.symm
    ·have:=lt_trans (a1 y hy) (b1 x hx)
     rw[lD]at this
     cases this
  subst hxy
  have nr:∀z∈r,z≠x:=fun z hz e=>by
   have:=a1 z hz
   rw[e,lD]at this
   cases this
  have ns:∀z∈s,z≠x:=fun z hz e=>by
   have:=b1 z hz
   rw[e,lD]at this
   cases this
  rw[anu a2 b2 fun z=>⟨fun hz=>by
   rcases List.mem_cons.1 ((h z).1 (by simp[hz]))with e|e
   ·exact absurd e (nr z hz)
   ·exact e,fun hz=>by
   rcases List.mem_cons.1 ((h z).2 (by simp[hz]))with e|e
   ·exact absurd e (ns z hz)
   ·exact e⟩]
theorem ac5:∀(t:List Ov) (o:Ov),(one t o).length≤t.length+1
 |[],o=>by simp[one]
 |x::r,o=>by
  have:=ac5 r o
  rw[one]
  split
  ·simp only[List.length_cons];omega
  ·split<;>simp only[List.length_cons]<;>omega
def app (t:List Ov) (l:List Ov):List Ov:=l.foldl one t
theorem qF (t:List Ov):app t []=t:=rfl
theorem agi (t l:List Ov)(o:Ov):app t (o::l)=app (one t o) l:=rfl
theorem zJ (t l m:List Ov):app t (l++m)=app (app t l) m:=List.foldl_append
theorem nY (t l:List Ov)(o:Ov):app t (l++[o])=one (app t l) o:=by rw[zJ];rfl
theorem qW:∀{t:List Ov} (l:List Ov),Up t→Up (app t l)
 |_,[],h=>h
 |_,o::l,h=>qW l (vG o h)
theorem uZ:∀(l t:List Ov),(app t l).length≤t.length+l.length
 |[],t=>by simp[app]
 |o::l,t=>by
  have h1:=uZ l (one t o)
  have h2:=ac5 t o
  rw[agi,List.length_cons]
  omega
theorem aju:∀{t:List Ov} (l:List Ov) (x:Ov),Up t→x∈app t l→x∈t∨x∈l
 |_,[],x,_,h=>.inl h
 |t,o::l,x,hu,h=>by
  rcases aju l x (vG o hu) h with h|h
  ·rcases(qI o x hu).1 h with h|⟨h,_⟩
   ·exact .inr (by rw[h];simp)
   ·exact .inl h
  ·exact .inr (by simp[h])
def get (t:List Ov) (k:ByteArray):Option Ov:=t.find? fun x=>decide (x.k=k)
theorem get_some {t:List Ov}{k:ByteArray}{o:Ov}(h:get t k=some o):o∈t∧o.k=k:=⟨List.mem_of_find?_eq_some h,by simpa using List.find?_some h⟩
theorem get_none {t:List Ov}{k:ByteArray}(h:get t k=none):∀x∈t,x.k≠k:=fun x hx=>by simpa using List.find?_eq_none.1 h x hx
theorem get_mem {t:List Ov}{o:Ov}(h:Up t)(ho:o∈t):get t o.k=some o:=by
 cases e:get t o.k with
 |none=>exact absurd rfl (get_none e o ho)
 |some q=>
  obtain⟨h1,h2⟩:=get_some e
  congr 1
  induction t with
  |nil=>simp at ho
  |cons x r ih=>
   obtain⟨a1,a2⟩:=List.pairwise_cons.1 h
   rcases List.mem_cons.1 ho with rfl|ho
   ·rcases List.mem_cons.1 h1 with h1|h1
    ·exact h1
    ·have:=a1 q h1
     rw[h2,lD]at this
     cases this
   ·rcases List.mem_cons.1 h1 with h1|h1
    ·have:=a1 o ho
     rw[←h1,h2,lD]at this
     cases this
    ·have e2:get r o.k=some q:=by
      unfold get at e⊢
      rw[List.find?_cons]at e
      have:decide (x.k=o.k)=false:=by
       have:=vS (a1 o ho)
       simpa using this
      rw[this]at e
      exact e
     exact ih a2 ho e2 h1
def met (t:List Ov) (k:ByteArray):Bool:=t.any fun x=>decide (x.k=k)
theorem ajd {t:List Ov}{k:ByteArray}:met t k=true↔∃x∈t,x.k=k:=by simp[met]
theorem zB (t:List Ov)(k:ByteArray):met t k=(get t k).isSome:=by
 cases e:get t k with
 |none=>
  rw[Option.isSome_none,Bool.eq_false_iff]
  intro h
  obtain⟨x,h1,h2⟩:=ajd.1 h
  exact get_none e x h1 h2
 |some o=>
  obtain⟨h1,h2⟩:=get_some e
  rw[Option.isSome_some]
  exact ajd.2 ⟨o,h1,h2⟩
def live (t:List Ov):List Ov:=t.filter Ov.p
def el (o:Ov):DataW Unit:=.agg [.lit (.string o.vl),.lit (.bool o.p)]
def en (o:Ov):Lit×DataW Unit:=(.string o.kl,el o)
def dat (t:List Ov):DataW Unit:=.map (t.map en)
theorem ar9 {a b:Ov}(h:a.k≠b.k):a.kl≠b.kl:=fun e=>h (qA e)
theorem aiD (o:Ov):∀(r:List Ov),(∀x∈r,lt o.k x.k=true)→(r.map en).filter (ChangeMaps.notKey (.string o.kl))=r.map en:=fun r h=>by
 refine List.filter_eq_self.2 fun p hp=>?_
 obtain⟨x,hx,rfl⟩:=List.mem_map.1 hp
 have:=ar9 (vS (h x hx)).symm
 simp[ChangeMaps.notKey,en,Lit.sameKey,this]
theorem an0 (o:Ov):∀(r:List Ov),(∀x∈r,lt o.k x.k=true)→DataW.insert (en o) (r.map en)=(o::r).map en
 |[],_=>rfl
 |x::r,h=>by
  have h1:(en o).1.before (en x).1=true:=h x (by simp)
  rw[List.map_cons,DataW.insert,if_pos h1]
  rfl
theorem uK:∀{t:List Ov} (o:Ov),Up t→ChangeMaps.putKey (.string o.kl) (el o) (t.map en)=(one t o).map en
 |[],o,_=>rfl
 |y::r,o,h=>by
  obtain⟨h1,h2⟩:=List.pairwise_cons.1 h
  have ih:=uK o h2
  unfold ChangeMaps.putKey at ih⊢
  rw[one]
  split
  ·rename_i hy
   have e1:ChangeMaps.notKey (.string o.kl) (en y)=true:=by
    have:=ar9 (vS hy)
    simp[ChangeMaps.notKey,en,Lit.sameKey,this]
   have e2:¬(en o).1.before (en y).1=true:=by
    have:=amM hy
    show ¬bytesBefore o.kl y.kl=true
    unfold lt at this
    unfold Ov.kl
    rw[this]
    simp
   rw[List.map_cons,List.filter_cons,if_pos e1]
   show DataW.insert (en o) _=_
   rw[DataW.insert,if_neg e2,List.map_cons]
   congr 1
  ·rename_i hy
   split
   ·rename_i ho
    have h3:∀x∈y::r,lt o.k x.k=true:=fun x hx=>by
     rcases List.mem_cons.1 hx with rfl|hx
     ·exact ho
     ·exact lt_trans ho (h1 x hx)
    rw[aiD o _ h3]
    exact an0 o _ h3
   ·rename_i ho
    have e1:y.k=o.k:=abA (by simpa using hy) (by simpa using ho)
    have e2:ChangeMaps.notKey (.string o.kl) (en y)=false:=by
     have:y.kl=o.kl:=by unfold Ov.kl;rw[e1]
     simp[ChangeMaps.notKey,en,Lit.sameKey,this]
    have h3:∀x∈r,lt o.k x.k=true:=fun x hx=>by rw[←e1];exact h1 x hx
    rw[List.map_cons,List.filter_cons,e2,aiD o r h3]
    exact an0 o r h3
theorem atM {t:List Ov}(o:Ov)(h:Up t):(dat t).put (.string o.kl) (el o)=dat (one t o):=by
 unfold dat
 rw[DataW.put_eq,uK o h]
theorem xw (t:List Ov):Maps.size (dat t)=t.length:=by simp[dat,Maps.size]
theorem ac9 (k:ByteArray):∀(t:List Ov),(t.map en).find? (fun p=>p.1.sameKey (.string k.data.toList))=(get t k).map en
 |[]=>rfl
 |x::r=>by
  have ih:=ac9 k r
  unfold get at ih⊢
  rw[List.map_cons,List.find?_cons,List.find?_cons,ih]
  by_cases e:x.k=k
  ·have:(en x).1.sameKey (.string k.data.toList)=true:=by simp[en,Lit.sameKey,Ov.kl,e]
   rw[this]
   simp[e]
  ·have e2:x.k.data.toList≠k.data.toList:=fun h=>e (qA h)
   have:(en x).1.sameKey (.string k.data.toList)=false:=by
    show(x.k.data.toList==k.data.toList)=false
    simpa using e2
   rw[this]
   simp[e]
theorem dat_at (t:List Ov)(k:ByteArray)(z:DataW Unit):(dat t).atKey (.string k.data.toList) z=match get t k with|some o=>el o|none=>z:=by
 simp only[dat,DataW.atKey,ac9]
 cases get t k<;>rfl
theorem auZ (t:List Ov)(k:ByteArray):Maps.has (dat t) (.string k.data.toList)=(get t k).isSome:=by
 show(t.map en).any (fun p=>p.1.sameKey (.string k.data.toList))=_
 have h:=ac9 k t
 cases e:get t k with
 |none=>
  rw[e,Option.map_none,List.find?_eq_none]at h
  rw[Option.isSome_none,List.any_eq_false]
  exact h
 |some o=>
  rw[e,Option.map_some]at h
  rw[Option.isSome_some,List.any_eq_true]
  exact⟨en o,List.mem_of_find?_eq_some h,by simpa using List.find?_some h⟩
theorem af1 (t:List Ov):strKeys (dat t)=t.map Ov.kl:=by
 show((t.map en).map fun p=>strOf p.1)=_
 rw[List.map_map]
 rfl
theorem ar8:∀(a b:List UInt8),bytesBefore a b=true→a≤b
 |[],_,_=>List.nil_le _
 |_::_,[],h=>by cases h
 |x::a,y::b,h=>by
  rw[bytesBefore,Bool.or_eq_true,Bool.and_eq_true,decide_eq_true_eq,beq_iff_eq]at h
  rcases h with h|⟨rfl,h⟩
  ·exact List.le_of_lt (List.cons_lt_cons_iff.2 (.inl h))
  ·exact List.cons_le_cons_iff.2 (.inr ⟨rfl,ar8 a b h⟩)
theorem akz {t:List Ov}(h:Up t){ss:List (List UInt8)}(hp:ss.Perm (strKeys (dat t))):ss.mergeSort (fun x y=>decide (x≤y))=t.map Ov.kl:=by
 rw[af1]at hp
 rw[mergeSort_of_perm hp]
 refine List.mergeSort_of_pairwise ?_
 rw[List.pairwise_map]
 exact h.imp fun {x y} hxy=>decide_eq_true (ar8 _ _ hxy)
def fin (o:Ov) (s:List Ov×Bool):List Ov:=if s.2 then s.1 else s.1++[o]
end Go.Proofs.YtpifdeoepppadaaGreatDoor.Tm
namespace Go.Proofs.YtpifdeoepppadaaGreatDoor.Rn
set_option linter.unusedVariables false
open Vm Om Bm
def may (ah:ByteArray):List Ov→Bool
 |[]=>true
 |o::r=>decide (o.c=0)&&(Tm.lt ah o.k&&may o.k r)
def uk (ah:ByteArray):List Ov→ByteArray
 |[]=>ah
 |o::r=>uk o.k r
def aJ (f u:Int) (l:List Ov):Int:=if 1024<l.length then 3 else if 1≤f∧f≤u∧u≤1048576∧may ⟨#[]⟩ l=true then 0 else 2
theorem aoE {f u:Int}{l:List Ov}(h:1024<l.length):aJ f u l=3:=if_pos h
theorem iD {f u:Int}{l:List Ov}(h:¬1024<l.length)(k:1≤f∧f≤u∧u≤1048576∧may ⟨#[]⟩ l=true):aJ f u l=0:=by unfold aJ;rw[if_neg h,if_pos k]
theorem iW {f u:Int}{l:List Ov}(h:¬1024<l.length)(k:¬(1≤f∧f≤u∧u≤1048576∧may ⟨#[]⟩ l=true)):aJ f u l=2:=by unfold aJ;rw[if_neg h,if_neg k]
theorem bu {f u:Int}{l:List Ov}(h:aJ f u l=0):l.length≤1024∧1≤f∧f≤u∧u≤1048576∧may ⟨#[]⟩ l=true:=by
 unfold aJ at h
 split at h
 ·simp at h
 ·rename_i h1
  split at h
  ·rename_i h2
   exact⟨by omega,h2⟩
  ·simp at h
theorem tF (f u:Int)(l:List Ov):aJ f u l=0∨aJ f u l=2∨aJ f u l=3:=by
 unfold aJ
 split
 ·exact .inr (.inr rfl)
 split
 ·exact .inl rfl
 ·exact .inr (.inl rfl)
theorem adK:∀(l m:List Ov) (ah:ByteArray),may ah (l++m)=(may ah l&&may (uk ah l) m)
 |[],m,ah=>by simp[may,uk]
 |o::l,m,ah=>by simp[may,uk,adK l m,Bool.and_assoc]
theorem ad7:∀(l:List Ov) (o:Ov) (ah:ByteArray),uk ah (l++[o])=o.k
 |[],_,_=>rfl
 |q::l,o,_=>ad7 l o q.k
theorem qD:∀{l:List Ov} {ah:ByteArray},may ah l=true→∀o∈l,o.c=0
 |[],_,_,o,ho=>by simp at ho
 |q::l,ah,h,o,ho=>by
  simp only[may,Bool.and_eq_true,decide_eq_true_eq]at h
  rcases List.mem_cons.1 ho with rfl|ho
  ·exact h.1
  ·exact qD h.2.2 o ho
theorem ant:∀{l:List Ov} {ah:ByteArray},may ah l=true→Tm.Up l∧∀o∈l,Tm.lt ah o.k=true
 |[],_,_=>⟨List.Pairwise.nil,fun o ho=>by simp at ho⟩
 |q::l,ah,h=>by
  simp only[may,Bool.and_eq_true,decide_eq_true_eq]at h
  obtain⟨h1,h2⟩:=ant h.2.2
  refine⟨List.pairwise_cons.2 ⟨fun o ho=>h2 o ho,h1⟩,fun o ho=>?_⟩
  rcases List.mem_cons.1 ho with rfl|ho
  ·exact h.2.1
  ·exact Tm.lt_trans h.2.1 (h2 o ho)
theorem afS:∀{l:List Ov} {ah:ByteArray},(∀o∈l,o.c=0)→Tm.Up l→(∀o∈l,Tm.lt ah o.k=true)→may ah l=true
 |[],_,_,_,_=>rfl
 |q::l,ah,h1,h2,h3=>by
  obtain⟨g1,g2⟩:=List.pairwise_cons.1 h2
  simp only[may,Bool.and_eq_true,decide_eq_true_eq]
  exact⟨h1 q (by simp),h3 q (by simp),afS (fun o ho=>h1 o (by simp[ho])) g2 fun o ho=>g1 o ho⟩
theorem auF {k:ByteArray}(h:1≤k.data.toList.length):Tm.lt ⟨#[]⟩ k=true:=by
 unfold Tm.lt
 rw[←Tm.oD]
 cases hk:k.data.toList with
 |nil=>rw[hk]at h;simp at h
 |cons x r=>rfl
theorem atH {o:Ov}(h:o.c=0):1≤o.k.data.toList.length:=(fI h).1
theorem ayv {l:List Ov}(h:∀o∈l,o.c=0)(hu:Tm.Up l):may ⟨#[]⟩ l=true:=afS h hu fun o ho=>auF (atH (h o ho))
def dV:List Ov→List Int
 |[]=>[]
 |o::r=>dw o.p o.kl o.vl++dV r
theorem adJ:∀(l m:List Ov),dV (l++m)=dV l++dV m
 |[],_=>rfl
 |o::l,m=>by
  show dw o.p o.kl o.vl++dV (l++m)=dw o.p o.kl o.vl++dV l++dV m
  rw[adJ l m,List.append_assoc]
theorem avd (o:Ov):dV [o]=dw o.p o.kl o.vl:=by simp[dV]
theorem aaP (l:List Ov)(o:Ov):dV (l++[o])=dV l++dw o.p o.kl o.vl:=by rw[adJ,avd]
theorem aa0:∀(l m:List Ov) (bs:List Int),l.length=m.length→(∀o∈l,o.c=0)→(∀o∈m,o.c=0)→dV l<+:bs→dV m<+:bs→l=m
 |[],[],_,_,_,_,_,_=>rfl
 |[],_::_,_,h,_,_,_,_=>by simp at h
 |_::_,[],_,h,_,_,_,_=>by simp at h
 |o::l,q::m,bs,hl,h1,h2,h,g=>by
  unfold dV at h g
  rw[bB]at h g
  obtain⟨e1,e2,e3⟩:=aj6 h.1 g.1 (h1 o (by simp)) (h2 q (by simp))
  obtain rfl:=Ov.eq e1 e2 e3
  rw[aa0 l m _ (by simpa using hl) (fun x hx=>h1 x (by simp[hx])) (fun x hx=>h2 x (by simp[hx])) h.2 g.2]
theorem ahV:∀{l:List Ov},(∀o∈l,o.c=0)→(dV l).length≤51*l.length
 |[],_=>by simp[dV]
 |o::l,h=>by
  have h1:=q9 (h o (by simp))
  have h2:=ahV (l:=l) fun q hq=>h q (List.mem_cons_of_mem _ hq)
  simp only[dV,List.length_append,List.length_cons]
  omega
def encR (f u:Int) (l:List Ov):List Int:=enc f.toNat++(enc u.toNat++(enc l.length++dV l))
def out (f u:Int) (l:List Ov):List Int:=if aJ f u l=0 then encR f u l else []
theorem lC {f u:Int}{l:List Ov}(h:aJ f u l=0):out f u l=encR f u l:=if_pos h
theorem rP {f u:Int}{l:List Ov}(h:aJ f u l≠0):out f u l=[]:=if_neg h
theorem auA {f u:Int}{l:List Ov}(h:aJ f u l=0):(encR f u l).length≤9+51*l.length:=by
 obtain⟨h1,h2,h3,h4,h5⟩:=bu h
 have a:=Cm.iQ (x:=f) (by omega)
 have b:=Cm.iQ (x:=u) (by omega)
 have c:(enc l.length).length≤3:=tH 2 l.length (by omega)
 have d:=ahV (qD h5)
 unfold encR
 rw[List.length_append,List.length_append,List.length_append]
 omega
theorem aca {f u:Int}{l:List Ov}(h:aJ f u l=0):(encR f u l).length≤52233:=by
 have:=auA h
 have:=(bu h).1
 omega
theorem yB (f u:Int)(l:List Ov):(out f u l).length≤52233:=by
 unfold out
 split
 ·exact aca (by assumption)
 ·simp
theorem parts {f u:Int}{l:List Ov}{bs:List Int}(h:encR f u l<+:bs):enc f.toNat<+:bs∧enc u.toNat<+:bs.drop (sz f.toNat)∧enc l.length<+:bs.drop (sz f.toNat+sz u.toNat)∧
  dV l<+:bs.drop (sz f.toNat+sz u.toNat+sz l.length):=by
 unfold encR at h
 rw[bB,bB,bB,List.drop_drop,List.drop_drop]at h
 exact h
theorem joins {x y m:Nat}{l:List Ov}{bs:List Int}(h1:enc x<+:bs)(h2:enc y<+:bs.drop (sz x))(h3:enc m<+:bs.drop (sz x+sz y))(h4:dV l<+:bs.drop (sz x+sz y+sz m)):
  enc x++(enc y++(enc m++dV l))<+:bs:=by
 rw[bB,bB,bB,List.drop_drop,List.drop_drop]
 exact⟨h1,h2,h3,h4⟩
def No (bs:List Int):Prop:=∀f u l,aJ f u l=0→encR f u l≠bs
theorem no1 {bs:List Int}(h:∀x:Nat,x≤1048576→¬enc x<+:bs):No bs:=fun f u l hc he=>by
 obtain⟨h1,h2,h3,h4,h5⟩:=bu hc
 exact h f.toNat (by omega) (parts (he▸List.prefix_rfl:encR f u l<+:bs)).1
theorem no2 {bs:List Int}{x:Nat}(hx:enc x<+:bs)(h:∀y:Nat,y≤1048576→¬enc y<+:bs.drop (sz x)):No bs:=fun f u l hc he=>by
 obtain⟨h1,h2,h3,h4,h5⟩:=bu hc
 obtain⟨p1,p2,_⟩:=parts (he▸List.prefix_rfl:encR f u l<+:bs)
 rw[←bI _ _ _ hx p1]at p2
 exact h u.toNat (by omega) p2
theorem no3 {bs:List Int}{x y M:Nat}(hx:enc x<+:bs)(hy:enc y<+:bs.drop (sz x))(hM:1024≤M)(h:∀m:Nat,m≤M→¬enc m<+:bs.drop (sz x+sz y)):No bs:=fun f u l hc he=>by
 obtain⟨h1,h2,h3,h4,h5⟩:=bu hc
 obtain⟨p1,p2,p3,_⟩:=parts (he▸List.prefix_rfl:encR f u l<+:bs)
 rw[←bI _ _ _ hx p1]at p2 p3
 rw[←bI _ _ _ hy p2]at p3
 exact h l.length (by omega) p3
theorem no4 {bs:List Int}{x y m:Nat}{l:List Ov}(hx:enc x<+:bs)(hy:enc y<+:bs.drop (sz x))(hm:enc m<+:bs.drop (sz x+sz y))(hl:dV l<+:bs.drop (sz x+sz y+sz m))(hc:∀o∈l,o.c=0)(hlt:l.length<m)
  (h:∀o:Ov,o.c=0→¬dw o.p o.kl o.vl<+:bs.drop (sz x+sz y+sz m+(dV l).length)):No bs:=fun f u r hr he=>by
 obtain⟨h1,h2,h3,h4,h5⟩:=bu hr
 obtain⟨p1,p2,p3,p4⟩:=parts (he▸List.prefix_rfl:encR f u r<+:bs)
 rw[←bI _ _ _ hx p1]at p2 p3 p4
 rw[←bI _ _ _ hy p2]at p3 p4
 have e:=bI _ _ _ hm p3
 rw[←e]at p4
 have hlr:l.length<r.length:=by omega
 have hs:r=r.take l.length++(r[l.length]::r.drop (l.length+1)):=by rw[←List.drop_eq_getElem_cons hlr,List.take_append_drop]
 have hrc:=qD h5
 rw[hs,adJ,bB]at p4
 have ht:=aa0 l (r.take l.length) _ (by rw[List.length_take];omega) hc (fun o ho=>hrc o (List.mem_of_mem_take ho)) hl p4.1
 have p5:=p4.2
 rw[←ht,List.drop_drop]at p5
 exact h r[l.length] (hrc _ (List.getElem_mem hlr)) ((List.prefix_append _ (dV (r.drop (l.length+1)))).trans p5)
theorem atg {bs:List Int}{x y:Nat}{l:List Ov}(hx:enc x<+:bs)(hy:enc y<+:bs.drop (sz x))(hm:enc l.length<+:bs.drop (sz x+sz y))(hl:dV l<+:bs.drop (sz x+sz y+sz l.length))(hc:∀o∈l,o.c=0)
  {f u:Int} {r:List Ov} (hr:aJ f u r=0) (he:encR f u r<+:bs):f=x∧u=y∧r=l:=by
 obtain⟨h1,h2,h3,h4,h5⟩:=bu hr
 obtain⟨p1,p2,p3,p4⟩:=parts he
 have ex:=bI _ _ _ hx p1
 rw[←ex]at p2 p3 p4
 have ey:=bI _ _ _ hy p2
 rw[←ey]at p3 p4
 have em:=bI _ _ _ hm p3
 rw[←em]at p4
 exact⟨by omega,by omega,(aa0 l r _ em hc (qD h5) hl p4).symm⟩
theorem no5 {bs:List Int}{x y:Nat}{l:List Ov}(hx:enc x<+:bs)(hy:enc y<+:bs.drop (sz x))(hm:enc l.length<+:bs.drop (sz x+sz y))(hl:dV l<+:bs.drop (sz x+sz y+sz l.length))(hc:∀o∈l,o.c=0)
  (h:sz x+sz y+sz l.length+(dV l).length≠bs.length∨aJ x y l≠0):No bs:=fun f u r hr he=>by
 obtain⟨rfl,rfl,rfl⟩:=atg hx hy hm hl hc hr (he▸List.prefix_rfl)
 rcases h with h|h
 ·apply h
  rw[←he]
  unfold encR
  rw[List.length_append,List.length_append,List.length_append]
  simp[sz]
  omega
 ·exact h hr
theorem ok5 {bs:List Int}{x y:Nat}{l:List Ov}(hx:enc x<+:bs)(hy:enc y<+:bs.drop (sz x))(hm:enc l.length<+:bs.drop (sz x+sz y))(hl:dV l<+:bs.drop (sz x+sz y+sz l.length))
  (h:sz x+sz y+sz l.length+(dV l).length=bs.length):encR x y l=bs:=by
 refine(joins hx hy hm hl).eq_of_length ?_
 rw[List.length_append,List.length_append,List.length_append,←h]
 unfold sz
 omega
theorem agd {f u f' u':Int}{l l':List Ov}{bs:List Int}(h:aJ f u l=0)(h':aJ f' u' l'=0)(he:encR f u l<+:bs)(he':encR f' u' l'<+:bs):f'=f∧u'=u∧l'=l:=by
 obtain⟨h1,h2,h3,h4,h5⟩:=bu h
 obtain⟨p1,p2,p3,p4⟩:=parts he
 obtain⟨e1,e2,e3⟩:=atg p1 p2 p3 p4 (qD h5) h' he'
 exact⟨by omega,by omega,e3⟩
def Dc (bs:List Int) (f u:Int) (l:List Ov) (g:Int):Prop:=(g=0∧aJ f u l=0∧encR f u l=bs)∨(g=5∧f=0∧u=0∧l=[]∧No bs)
theorem apZ {bs:List Int}{f u g:Int}{l:List Ov}(h:Dc bs f u l g):g=0∨g=5:=by
 rcases h with⟨rfl,_⟩|⟨rfl,_⟩
 ·exact .inl rfl
 ·exact .inr rfl
end Go.Proofs.YtpifdeoepppadaaGreatDoor.Rn

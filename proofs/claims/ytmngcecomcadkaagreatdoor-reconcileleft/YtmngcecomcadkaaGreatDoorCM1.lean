/- Texts of one layer, one behind the other. -/
import Derived.Test.YtmngcecomcadkaaGreatDoorCG1
import Derived.Maps.Ext
import Derived.Sort.KeysCollected
import Derived.Lib.SlMapEqual
set_option maxRecDepth 100000
set_option maxHeartbeats 8000000
namespace Go.Proofs.YtmngcecomcadkaaGreatDoor.Tm
open Bm Go.Sort
def lt (a b:ByteArray):Bool:=bytesBefore a.data.toList b.data.toList
theorem wh (a:ByteArray):lt a a=false:=WideAt.bytes_irrefl _
theorem lt_trans {a b c:ByteArray}(h:lt a b=true)(k:lt b c=true):lt a c=true:=WideShapes.bytes_trans _ _ _ h k
theorem amj {a b:ByteArray}(h:lt a b=true):lt b a=false:=by
 cases e:lt b a
 ·rfl
 ·have:=lt_trans h e
  rw[wh]at this
  cases this
theorem aa9 {a b:ByteArray}(h:lt a b=true):a≠b:=fun e=>by rw[e,wh]at h;cases h
theorem aap {a b:ByteArray}(h:lt a b=false)(k:lt b a=false):a=b:=by
 by_cases e:a.data.toList=b.data.toList
 ·exact yB e
 ·rcases WideAt.bytes_total _ _ e with h1|h1
  ·unfold lt at h
   rw[h1]at h
   cases h
  ·unfold lt at k
   rw[h1]at k
   cases k
theorem zb:∀(a b:List UInt8),Op.bytesLess a b=bytesBefore a b
 |_,[]=>by rename_i a;cases a<;>rfl
 |[],_::_=>rfl
 |x::a,y::b=>by rw[Op.bytesLess,bytesBefore,zb a b]
theorem ahK (a b:ByteArray):Op.bytesLess a.toList b.toList=lt a b:=by
 rw[ByteArray.toList_eq,ByteArray.toList_eq,zb]
 rfl
theorem eqk (a b:ByteArray):(a.toList==b.toList)=decide (a=b):=by
 rw[ByteArray.toList_eq,ByteArray.toList_eq]
 by_cases h:a=b
 ·subst h;simp
 ·have:a.data.toList≠b.data.toList:=fun e=>h (yB e)
  rw[decide_eq_false h]
  simpa using fun e:a.data=b.data=>this (by rw[e])
def Up (t:List Ov):Prop:=t.Pairwise fun x y=>lt x.k y.k=true
def one:List Ov→Ov→List Ov
 |[],o=>[o]
 |x::r,o=>if lt x.k o.k then x::one r o else if lt o.k x.k then o::x::r else o::r
theorem ahA:∀{t:List Ov} (o x:Ov),Up t→(x∈one t o↔x=o∨(x∈t∧x.k≠o.k))
 |[],o,x,_=>by simp[one]
 |y::r,o,x,h=>by
  obtain⟨h1,h2⟩:=List.pairwise_cons.1 h
  rw[one]
  split
  ·rename_i hy
   rw[List.mem_cons,ahA o x h2,List.mem_cons]
   constructor
   ·rintro(rfl|h|⟨h,k⟩)
    ·exact .inr ⟨.inl rfl,aa9 hy⟩
    ·exact .inl h
    ·exact .inr ⟨.inr h,k⟩
   ·rintro(h|⟨h|h,k⟩)
    ·exact .inr (.inl h)
    ·exact .inl h
    ·exact .inr (.inr ⟨h,k⟩)
  ·rename_i hy
   split
   ·rename_i ho
    rw[List.mem_cons]
    constructor
    ·rintro(h|h)
     ·exact .inl h
     ·refine .inr ⟨h,fun e=>?_⟩
      rcases List.mem_cons.1 h with rfl|h
      ·rw[e,wh]at ho;cases ho
      ·have:=lt_trans ho (h1 x h)
       rw[e,wh]at this
       cases this
    ·rintro(h|⟨h,_⟩)
     ·exact .inl h
     ·exact .inr h
   ·rename_i ho
    have e1:y.k=o.k:=aap (by simpa using hy) (by simpa using ho)
    rw[List.mem_cons,List.mem_cons]
    constructor
    ·rintro(h|h)
     ·exact .inl h
     ·refine .inr ⟨.inr h,fun e=>?_⟩
      have:=h1 x h
      rw[e,e1,wh]at this
      cases this
    ·rintro(h|⟨rfl|h,k⟩)
     ·exact .inl h
     ·exact absurd e1 k
     ·exact .inr h
theorem ak4:∀{t:List Ov} (o:Ov),Up t→Up (one t o)
 |[],o,_=>by simp[one,Up]
 |y::r,o,h=>by
  obtain⟨h1,h2⟩:=List.pairwise_cons.1 h
  rw[one]
  split
  ·rename_i hy
   refine List.pairwise_cons.2 ⟨fun x hx=>?_,ak4 o h2⟩
   rcases(ahA o x h2).1 hx with rfl|⟨hx,_⟩
   ·exact hy
   ·exact h1 x hx
  ·rename_i hy
   split
   ·rename_i ho
    refine List.pairwise_cons.2 ⟨fun x hx=>?_,h⟩
    rcases List.mem_cons.1 hx with rfl|hx
    ·exact ho
    ·exact lt_trans ho (h1 x hx)
   ·rename_i ho
    have e1:y.k=o.k:=aap (by simpa using hy) (by simpa using ho)
    refine List.pairwise_cons.2 ⟨fun x hx=>?_,h2⟩
    rw[←e1]
    exact h1 x hx
theorem abK:∀(t:List Ov) (o:Ov),(one t o).length≤t.length+1
 |[],o=>by simp[one]
 |x::r,o=>by
  have:=abK r o
  rw[one]
  split
  ·simp only[List.length_cons];omega
  ·split<;>simp only[List.length_cons]<;>omega
def app (t:List Ov) (l:List Ov):List Ov:=l.foldl one t
theorem aoA (t l:List Ov)(o:Ov):app t (o::l)=app (one t o) l:=rfl
theorem ahN (t l m:List Ov):app t (l++m)=app (app t l) m:=List.foldl_append
theorem zu (t l:List Ov)(o:Ov):app t (l++[o])=one (app t l) o:=by rw[ahN];rfl
theorem abt:∀(l t:List Ov),(app t l).length≤t.length+l.length
 |[],t=>by simp[app]
 |o::l,t=>by
  have h1:=abt l (one t o)
  have h2:=abK t o
  rw[aoA,List.length_cons]
  omega
def get (t:List Ov) (k:ByteArray):Option Ov:=t.find? fun x=>decide (x.k=k)
def el (o:Ov):DataW Unit:=.agg [.lit (.string o.vl),.lit (.bool o.p)]
def en (o:Ov):Lit×DataW Unit:=(.string o.kl,el o)
def dat (t:List Ov):DataW Unit:=.map (t.map en)
theorem aro {a b:Ov}(h:a.k≠b.k):a.kl≠b.kl:=fun e=>h (yB e)
theorem ahz (o:Ov):∀(r:List Ov),(∀x∈r,lt o.k x.k=true)→(r.map en).filter (ChangeMaps.notKey (.string o.kl))=r.map en:=fun r h=>by
 refine List.filter_eq_self.2 fun p hp=>?_
 obtain⟨x,hx,rfl⟩:=List.mem_map.1 hp
 have:=aro (aa9 (h x hx)).symm
 simp[ChangeMaps.notKey,en,Lit.sameKey,this]
theorem akK (o:Ov):∀(r:List Ov),(∀x∈r,lt o.k x.k=true)→DataW.insert (en o) (r.map en)=(o::r).map en
 |[],_=>rfl
 |x::r,h=>by
  have h1:(en o).1.before (en x).1=true:=h x (by simp)
  rw[List.map_cons,DataW.insert,if_pos h1]
  rfl
theorem sM:∀{t:List Ov} (o:Ov),Up t→ChangeMaps.putKey (.string o.kl) (el o) (t.map en)=(one t o).map en
 |[],o,_=>rfl
 |y::r,o,h=>by
  obtain⟨h1,h2⟩:=List.pairwise_cons.1 h
  have ih:=sM o h2
  unfold ChangeMaps.putKey at ih⊢
  rw[one]
  split
  ·rename_i hy
   have e1:ChangeMaps.notKey (.string o.kl) (en y)=true:=by
    have:=aro (aa9 hy)
    simp[ChangeMaps.notKey,en,Lit.sameKey,this]
   have e2:¬(en o).1.before (en y).1=true:=by
    have:=amj hy
    show ¬bytesBefore o.kl y.kl=true
    unfold lt at this
    unfold Ov.kl
    rw[this]
    simp
   rw[List.map_cons,List.filter_cons,if_pos e1]
   show DataW.insert (en o) _=_
   rw[DataW.insert,if_neg e2,List.map_cons]
   congr 1
  ·rename_i hy
   split
   ·rename_i ho
    have h3:∀x∈y::r,lt o.k x.k=true:=fun x hx=>by
     rcases List.mem_cons.1 hx with rfl|hx
     ·exact ho
     ·exact lt_trans ho (h1 x hx)
    rw[ahz o _ h3]
    exact akK o _ h3
   ·rename_i ho
    have e1:y.k=o.k:=aap (by simpa using hy) (by simpa using ho)
    have e2:ChangeMaps.notKey (.string o.kl) (en y)=false:=by
     have:y.kl=o.kl:=by unfold Ov.kl;rw[e1]
     simp[ChangeMaps.notKey,en,Lit.sameKey,this]
    have h3:∀x∈r,lt o.k x.k=true:=fun x hx=>by rw[←e1];exact h1 x hx
    rw[List.map_cons,List.filter_cons,e2,ahz o r h3]
    exact akK o r h3
theorem asb {t:List Ov}(o:Ov)(h:Up t):(dat t).put (.string o.kl) (el o)=dat (one t o):=by
 unfold dat
 rw[DataW.put_eq,sM o h]
theorem ao9 (t:List Ov):Maps.size (dat t)=t.length:=by simp[dat,Maps.size]
end Go.Proofs.YtmngcecomcadkaaGreatDoor.Tm
namespace Go.Proofs.YtmngcecomcadkaaGreatDoor.Rn
set_option linter.unusedVariables false
open Vm Om Bm
def may (ah:ByteArray):List Ov→Bool
 |[]=>true
 |o::r=>decide (o.c=0)&&(Tm.lt ah o.k&&may o.k r)
def sj (ah:ByteArray):List Ov→ByteArray
 |[]=>ah
 |o::r=>sj o.k r
def chk (f u:Int) (l:List Ov):Int:=if 1024<l.length then 3 else if 1≤f∧f≤u∧u≤1048576∧may ⟨#[]⟩ l=true then 0 else 2
theorem an6 {f u:Int}{l:List Ov}(h:1024<l.length):chk f u l=3:=if_pos h
theorem fZ {f u:Int}{l:List Ov}(h:¬1024<l.length)(k:1≤f∧f≤u∧u≤1048576∧may ⟨#[]⟩ l=true):chk f u l=0:=by unfold chk;rw[if_neg h,if_pos k]
theorem ik {f u:Int}{l:List Ov}(h:¬1024<l.length)(k:¬(1≤f∧f≤u∧u≤1048576∧may ⟨#[]⟩ l=true)):chk f u l=2:=by unfold chk;rw[if_neg h,if_neg k]
theorem aO {f u:Int}{l:List Ov}(h:chk f u l=0):l.length≤1024∧1≤f∧f≤u∧u≤1048576∧may ⟨#[]⟩ l=true:=by
 unfold chk at h
 split at h
 ·simp at h
 ·rename_i h1
  split at h
  ·rename_i h2
   exact⟨by omega,h2⟩
  ·simp at h
theorem abZ:∀(l m:List Ov) (ah:ByteArray),may ah (l++m)=(may ah l&&may (sj ah l) m)
 |[],m,ah=>by simp[may,sj]
 |o::l,m,ah=>by simp[may,sj,abZ l m,Bool.and_assoc]
theorem acQ:∀(l:List Ov) (o:Ov) (ah:ByteArray),sj ah (l++[o])=o.k
 |[],_,_=>rfl
 |q::l,o,_=>acQ l o q.k
theorem adR:∀{l:List Ov} {ah:ByteArray},may ah l=true→∀o∈l,o.c=0
 |[],_,_,o,ho=>by simp at ho
 |q::l,ah,h,o,ho=>by
  simp only[may,Bool.and_eq_true,decide_eq_true_eq]at h
  rcases List.mem_cons.1 ho with rfl|ho
  ·exact h.1
  ·exact adR h.2.2 o ho
def jm:List Ov→List Int
 |[]=>[]
 |o::r=>eG o.p o.kl o.vl++jm r
theorem agR:∀(l m:List Ov),jm (l++m)=jm l++jm m
 |[],_=>rfl
 |o::l,m=>by
  show eG o.p o.kl o.vl++jm (l++m)=eG o.p o.kl o.vl++jm l++jm m
  rw[agR l m,List.append_assoc]
theorem ar2 (o:Ov):jm [o]=eG o.p o.kl o.vl:=by simp[jm]
theorem amG (l:List Ov)(o:Ov):jm (l++[o])=jm l++eG o.p o.kl o.vl:=by rw[agR,ar2]
theorem aer:∀{l:List Ov},(∀o∈l,o.c=0)→(jm l).length≤51*l.length
 |[],_=>by simp[jm]
 |o::l,h=>by
  have h1:=vB (h o (by simp))
  have h2:=aer (l:=l) fun q hq=>h q (List.mem_cons_of_mem _ hq)
  simp only[jm,List.length_append,List.length_cons]
  omega
def encR (f u:Int) (l:List Ov):List Int:=enc f.toNat++(enc u.toNat++(enc l.length++jm l))
def out (f u:Int) (l:List Ov):List Int:=if chk f u l=0 then encR f u l else []
theorem jd {f u:Int}{l:List Ov}(h:chk f u l=0):out f u l=encR f u l:=if_pos h
theorem oh {f u:Int}{l:List Ov}(h:chk f u l≠0):out f u l=[]:=if_neg h
theorem asU {f u:Int}{l:List Ov}(h:chk f u l=0):(encR f u l).length≤9+51*l.length:=by
 obtain⟨h1,h2,h3,h4,h5⟩:=aO h
 have a:=Cm.gy (x:=f) (by omega)
 have b:=Cm.gy (x:=u) (by omega)
 have c:(enc l.length).length≤3:=nT 2 l.length (by omega)
 have d:=aer (adR h5)
 unfold encR
 rw[List.length_append,List.length_append,List.length_append]
 omega
theorem aiS {f u:Int}{l:List Ov}(h:chk f u l=0):(encR f u l).length≤52233:=by
 have:=asU h
 have:=(aO h).1
 omega
theorem xq (f u:Int)(l:List Ov):(out f u l).length≤52233:=by
 unfold out
 split
 ·exact aiS (by assumption)
 ·simp
end Go.Proofs.YtmngcecomcadkaaGreatDoor.Rn

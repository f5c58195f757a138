/- Texts of one layer, one behind the other. -/
import Derived.Test.YtjemlgdkjilnoaaGreatDoorG1
import Derived.Maps.Ext
import Derived.Sort.KeysCollected
import Derived.Lib.SlMapEqual
set_option maxRecDepth 100000
set_option maxHeartbeats 8000000
namespace Go.Proofs.YtjemlgdkjilnoaaGreatDoor.Tm
open Bm Go.Sort
def lt (a b:ByteArray):Bool:=bytesBefore a.data.toList b.data.toList
theorem wQ (a:ByteArray):lt a a=false:=WideAt.bytes_irrefl _
theorem lt_trans {a b c:ByteArray}(h:lt a b=true)(k:lt b c=true):lt a c=true:=WideShapes.bytes_trans _ _ _ h k
theorem akH {a b:ByteArray}(h:lt a b=true):lt b a=false:=by
 cases e:lt b a
 ·rfl
 ·have:=lt_trans h e
  rw[wQ]at this
  cases this
theorem abl {a b:ByteArray}(h:lt a b=true):a≠b:=fun e=>by rw[e,wQ]at h;cases h
theorem aaY {a b:ByteArray}(h:lt a b=false)(k:lt b a=false):a=b:=by
 by_cases e:a.data.toList=b.data.toList
 ·exact yM e
 ·rcases WideAt.bytes_total _ _ e with h1|h1
  ·unfold lt at h
   rw[h1]at h
   cases h
  ·unfold lt at k
   rw[h1]at k
   cases k
theorem zg:∀(a b:List UInt8),Op.bytesLess a b=bytesBefore a b
 |_,[]=>by rename_i a;cases a<;>rfl
 |[],_::_=>rfl
 |x::a,y::b=>by rw[Op.bytesLess,bytesBefore,zg a b]
theorem ag3 (a b:ByteArray):Op.bytesLess a.toList b.toList=lt a b:=by
 rw[ByteArray.toList_eq,ByteArray.toList_eq,zg]
 rfl
theorem eqk (a b:ByteArray):(a.toList==b.toList)=decide (a=b):=by
 rw[ByteArray.toList_eq,ByteArray.toList_eq]
 by_cases h:a=b
 ·subst h;simp
 ·have:a.data.toList≠b.data.toList:=fun e=>h (yM e)
  rw[decide_eq_false h]
  simpa using fun e:a.data=b.data=>this (by rw[e])
def Up (t:List Ov):Prop:=t.Pairwise fun x y=>lt x.k y.k=true
def one:List Ov→Ov→List Ov
 |[],o=>[o]
 |x::r,o=>if lt x.k o.k then x::one r o else if lt o.k x.k then o::x::r else o::r
theorem agD:∀{t:List Ov} (o x:Ov),Up t→(x∈one t o↔x=o∨(x∈t∧x.k≠o.k))
 |[],o,x,_=>by simp[one]
 |y::r,o,x,h=>by
  obtain⟨h1,h2⟩:=List.pairwise_cons.1 h
  rw[one]
  split
  ·rename_i hy
   rw[List.mem_cons,agD o x h2,List.mem_cons]
   constructor
   ·rintro(rfl|h|⟨h,k⟩)
    ·exact .inr ⟨.inl rfl,abl hy⟩
    ·exact .inl h
    ·exact .inr ⟨.inr h,k⟩
   ·rintro(h|⟨h|h,k⟩)
    ·exact .inr (.inl h)
    ·exact .inl h
    ·exact .inr (.inr ⟨h,k⟩)
  ·rename_i hy
   split
   ·rename_i ho
    rw[List.mem_cons]
    constructor
    ·rintro(h|h)
     ·exact .inl h
     ·refine .inr ⟨h,fun e=>?_⟩
      rcases List.mem_cons.1 h with rfl|h
      ·rw[e,wQ]at ho;cases ho
      ·have:=lt_trans ho (h1 x h)
       rw[e,wQ]at this
       cases this
    ·rintro(h|⟨h,_⟩)
     ·exact .inl h
     ·exact .inr h
   ·rename_i ho
    have e1:y.k=o.k:=aaY (by simpa using hy) (by simpa using ho)
    rw[List.mem_cons,List.mem_cons]
    constructor
    ·rintro(h|h)
     ·exact .inl h
     ·refine .inr ⟨.inr h,fun e=>?_⟩
      have:=h1 x h
      rw[e,e1,wQ]at this
      cases this
    ·rintro(h|⟨rfl|h,k⟩)
     ·exact .inl h
     ·exact absurd e1 k
     ·exact .inr h
theorem ak8:∀{t:List Ov} (o:Ov),Up t→Up (one t o)
 |[],o,_=>by simp[one,Up]
 |y::r,o,h=>by
  obtain⟨h1,h2⟩:=List.pairwise_cons.1 h
  rw[one]
  split
  ·rename_i hy
   refine List.pairwise_cons.2 ⟨fun x hx=>?_,ak8 o h2⟩
   rcases(agD o x h2).1 hx with rfl|⟨hx,_⟩
   ·exact hy
   ·exact h1 x hx
  ·rename_i hy
   split
   ·rename_i ho
    refine List.pairwise_cons.2 ⟨fun x hx=>?_,h⟩
    rcases List.mem_cons.1 hx with rfl|hx
    ·exact ho
    ·exact lt_trans ho (h1 x hx)
   ·rename_i ho
    have e1:y.k=o.k:=aaY (by simpa using hy) (by simpa using ho)
    refine List.pairwise_cons.2 ⟨fun x hx=>?_,h2⟩
    rw[←e1]
    exact h1 x hx
theorem ace:∀(t:List Ov) (o:Ov),(one t o).length≤t.length+1
 |[],o=>by simp[one]
 |x::r,o=>by
  have:=ace r o
  rw[one]
  split
  ·simp only[List.length_cons];omega
  ·split<;>simp only[List.length_cons]<;>omega
def app (t:List Ov) (l:List Ov):List Ov:=l.foldl one t
theorem yA (t:List Ov):app t []=t:=rfl
theorem anZ (t l:List Ov)(o:Ov):app t (o::l)=app (one t o) l:=rfl
theorem ag1 (t l m:List Ov):app t (l++m)=app (app t l) m:=List.foldl_append
theorem uN (t l:List Ov)(o:Ov):app t (l++[o])=one (app t l) o:=by rw[ag1];rfl
theorem ab9:∀(l t:List Ov),(app t l).length≤t.length+l.length
 |[],t=>by simp[app]
 |o::l,t=>by
  have h1:=ab9 l (one t o)
  have h2:=ace t o
  rw[anZ,List.length_cons]
  omega
def get (t:List Ov) (k:ByteArray):Option Ov:=t.find? fun x=>decide (x.k=k)
def live (t:List Ov):List Ov:=t.filter Ov.p
def el (o:Ov):DataW Unit:=.agg [.lit (.string o.vl),.lit (.bool o.p)]
def en (o:Ov):Lit×DataW Unit:=(.string o.kl,el o)
def dat (t:List Ov):DataW Unit:=.map (t.map en)
theorem ap4 {a b:Ov}(h:a.k≠b.k):a.kl≠b.kl:=fun e=>h (yM e)
theorem agV (o:Ov):∀(r:List Ov),(∀x∈r,lt o.k x.k=true)→(r.map en).filter (ChangeMaps.notKey (.string o.kl))=r.map en:=fun r h=>by
 refine List.filter_eq_self.2 fun p hp=>?_
 obtain⟨x,hx,rfl⟩:=List.mem_map.1 hp
 have:=ap4 (abl (h x hx)).symm
 simp[ChangeMaps.notKey,en,Lit.sameKey,this]
theorem amt (o:Ov):∀(r:List Ov),(∀x∈r,lt o.k x.k=true)→DataW.insert (en o) (r.map en)=(o::r).map en
 |[],_=>rfl
 |x::r,h=>by
  have h1:(en o).1.before (en x).1=true:=h x (by simp)
  rw[List.map_cons,DataW.insert,if_pos h1]
  rfl
theorem sK:∀{t:List Ov} (o:Ov),Up t→ChangeMaps.putKey (.string o.kl) (el o) (t.map en)=(one t o).map en
 |[],o,_=>rfl
 |y::r,o,h=>by
  obtain⟨h1,h2⟩:=List.pairwise_cons.1 h
  have ih:=sK o h2
  unfold ChangeMaps.putKey at ih⊢
  rw[one]
  split
  ·rename_i hy
   have e1:ChangeMaps.notKey (.string o.kl) (en y)=true:=by
    have:=ap4 (abl hy)
    simp[ChangeMaps.notKey,en,Lit.sameKey,this]
   have e2:¬(en o).1.before (en y).1=true:=by
    have:=akH hy
    show ¬bytesBefore o.kl y.kl=true
    unfold lt at this
    unfold Ov.kl
    rw[this]
    simp
   rw[List.map_cons,List.filter_cons,if_pos e1]
   show DataW.insert (en o) _=_
   rw[DataW.insert,if_neg e2,List.map_cons]
   congr 1
  ·rename_i hy
   split
   ·rename_i ho
    have h3:∀x∈y::r,lt o.k x.k=true:=fun x hx=>by
     rcases List.mem_cons.1 hx with rfl|hx
     ·exact ho
     ·exact lt_trans ho (h1 x hx)
    rw[agV o _ h3]
    exact amt o _ h3
   ·rename_i ho
    have e1:y.k=o.k:=aaY (by simpa using hy) (by simpa using ho)
    have e2:ChangeMaps.notKey (.string o.kl) (en y)=false:=by
     have:y.kl=o.kl:=by unfold Ov.kl;rw[e1]
     simp[ChangeMaps.notKey,en,Lit.sameKey,this]
    have h3:∀x∈r,lt o.k x.k=true:=fun x hx=>by rw[←e1];exact h1 x hx
    rw[List.map_cons,List.filter_cons,e2,agV o r h3]
    exact amt o r h3
theorem asr {t:List Ov}(o:Ov)(h:Up t):(dat t).put (.string o.kl) (el o)=dat (one t o):=by
 unfold dat
 rw[DataW.put_eq,sK o h]
theorem amz (t:List Ov):Maps.size (dat t)=t.length:=by simp[dat,Maps.size]
def fin (o:Ov) (s:List Ov×Bool):List Ov:=if s.2 then s.1 else s.1++[o]
end Go.Proofs.YtjemlgdkjilnoaaGreatDoor.Tm
namespace Go.Proofs.YtjemlgdkjilnoaaGreatDoor.Rn
set_option linter.unusedVariables false
open Vm Om Bm
def may (ah:ByteArray):List Ov→Bool
 |[]=>true
 |o::r=>decide (o.c=0)&&(Tm.lt ah o.k&&may o.k r)
def rR (ah:ByteArray):List Ov→ByteArray
 |[]=>ah
 |o::r=>rR o.k r
def chk (f u:Int) (l:List Ov):Int:=if 1024<l.length then 3 else if 1≤f∧f≤u∧u≤1048576∧may ⟨#[]⟩ l=true then 0 else 2
theorem amx {f u:Int}{l:List Ov}(h:1024<l.length):chk f u l=3:=if_pos h
theorem ib {f u:Int}{l:List Ov}(h:¬1024<l.length)(k:1≤f∧f≤u∧u≤1048576∧may ⟨#[]⟩ l=true):chk f u l=0:=by unfold chk;rw[if_neg h,if_pos k]
theorem iD {f u:Int}{l:List Ov}(h:¬1024<l.length)(k:¬(1≤f∧f≤u∧u≤1048576∧may ⟨#[]⟩ l=true)):chk f u l=2:=by unfold chk;rw[if_neg h,if_neg k]
theorem aQ {f u:Int}{l:List Ov}(h:chk f u l=0):l.length≤1024∧1≤f∧f≤u∧u≤1048576∧may ⟨#[]⟩ l=true:=by
 unfold chk at h
 split at h
 ·simp at h
 ·rename_i h1
  split at h
  ·rename_i h2
   exact⟨by omega,h2⟩
  ·simp at h
theorem qN (f u:Int)(l:List Ov):chk f u l=0∨chk f u l=2∨chk f u l=3:=by
 unfold chk
 split
 ·exact .inr (.inr rfl)
 split
 ·exact .inl rfl
 ·exact .inr (.inl rfl)
theorem ab4:∀(l m:List Ov) (ah:ByteArray),may ah (l++m)=(may ah l&&may (rR ah l) m)
 |[],m,ah=>by simp[may,rR]
 |o::l,m,ah=>by simp[may,rR,ab4 l m,Bool.and_assoc]
theorem acX:∀(l:List Ov) (o:Ov) (ah:ByteArray),rR ah (l++[o])=o.k
 |[],_,_=>rfl
 |q::l,o,_=>acX l o q.k
theorem vz:∀{l:List Ov} {ah:ByteArray},may ah l=true→∀o∈l,o.c=0
 |[],_,_,o,ho=>by simp at ho
 |q::l,ah,h,o,ho=>by
  simp only[may,Bool.and_eq_true,decide_eq_true_eq]at h
  rcases List.mem_cons.1 ho with rfl|ho
  ·exact h.1
  ·exact vz h.2.2 o ho
theorem alX:∀{l:List Ov} {ah:ByteArray},may ah l=true→Tm.Up l∧∀o∈l,Tm.lt ah o.k=true
 |[],_,_=>⟨List.Pairwise.nil,fun o ho=>by simp at ho⟩
 |q::l,ah,h=>by
  simp only[may,Bool.and_eq_true,decide_eq_true_eq]at h
  obtain⟨h1,h2⟩:=alX h.2.2
  refine⟨List.pairwise_cons.2 ⟨fun o ho=>h2 o ho,h1⟩,fun o ho=>?_⟩
  rcases List.mem_cons.1 ho with rfl|ho
  ·exact h.2.1
  ·exact Tm.lt_trans h.2.1 (h2 o ho)
def iL:List Ov→List Int
 |[]=>[]
 |o::r=>dN o.p o.kl o.vl++iL r
theorem agI:∀(l m:List Ov),iL (l++m)=iL l++iL m
 |[],_=>rfl
 |o::l,m=>by
  show dN o.p o.kl o.vl++iL (l++m)=dN o.p o.kl o.vl++iL l++iL m
  rw[agI l m,List.append_assoc]
theorem arP (o:Ov):iL [o]=dN o.p o.kl o.vl:=by simp[iL]
theorem apr (l:List Ov)(o:Ov):iL (l++[o])=iL l++dN o.p o.kl o.vl:=by rw[agI,arP]
theorem aex:∀(l m:List Ov) (bs:List Int),l.length=m.length→(∀o∈l,o.c=0)→(∀o∈m,o.c=0)→iL l<+:bs→iL m<+:bs→l=m
 |[],[],_,_,_,_,_,_=>rfl
 |[],_::_,_,h,_,_,_,_=>by simp at h
 |_::_,[],_,h,_,_,_,_=>by simp at h
 |o::l,q::m,bs,hl,h1,h2,h,g=>by
  unfold iL at h g
  rw[bq]at h g
  obtain⟨e1,e2,e3⟩:=aiw h.1 g.1 (h1 o (by simp)) (h2 q (by simp))
  obtain rfl:=Ov.eq e1 e2 e3
  rw[aex l m _ (by simpa using hl) (fun x hx=>h1 x (by simp[hx])) (fun x hx=>h2 x (by simp[hx])) h.2 g.2]
theorem aga:∀{l:List Ov},(∀o∈l,o.c=0)→(iL l).length≤51*l.length
 |[],_=>by simp[iL]
 |o::l,h=>by
  have h1:=uD (h o (by simp))
  have h2:=aga (l:=l) fun q hq=>h q (List.mem_cons_of_mem _ hq)
  simp only[iL,List.length_append,List.length_cons]
  omega
def encR (f u:Int) (l:List Ov):List Int:=enc f.toNat++(enc u.toNat++(enc l.length++iL l))
def out (f u:Int) (l:List Ov):List Int:=if chk f u l=0 then encR f u l else []
theorem jh {f u:Int}{l:List Ov}(h:chk f u l=0):out f u l=encR f u l:=if_pos h
theorem nV {f u:Int}{l:List Ov}(h:chk f u l≠0):out f u l=[]:=if_neg h
theorem arb {f u:Int}{l:List Ov}(h:chk f u l=0):(encR f u l).length≤9+51*l.length:=by
 obtain⟨h1,h2,h3,h4,h5⟩:=aQ h
 have a:=Cm.gz (x:=f) (by omega)
 have b:=Cm.gz (x:=u) (by omega)
 have c:(enc l.length).length≤3:=nK 2 l.length (by omega)
 have d:=aga (vz h5)
 unfold encR
 rw[List.length_append,List.length_append,List.length_append]
 omega
theorem aa8 {f u:Int}{l:List Ov}(h:chk f u l=0):(encR f u l).length≤52233:=by
 have:=arb h
 have:=(aQ h).1
 omega
theorem xq (f u:Int)(l:List Ov):(out f u l).length≤52233:=by
 unfold out
 split
 ·exact aa8 (by assumption)
 ·simp
theorem parts {f u:Int}{l:List Ov}{bs:List Int}(h:encR f u l<+:bs):enc f.toNat<+:bs∧enc u.toNat<+:bs.drop (sz f.toNat)∧enc l.length<+:bs.drop (sz f.toNat+sz u.toNat)∧
  iL l<+:bs.drop (sz f.toNat+sz u.toNat+sz l.length):=by
 unfold encR at h
 rw[bq,bq,bq,List.drop_drop,List.drop_drop]at h
 exact h
def No (bs:List Int):Prop:=∀f u l,chk f u l=0→encR f u l≠bs
theorem no1 {bs:List Int}(h:∀x:Nat,x≤1048576→¬enc x<+:bs):No bs:=fun f u l hc he=>by
 obtain⟨h1,h2,h3,h4,h5⟩:=aQ hc
 exact h f.toNat (by omega) (parts (he▸List.prefix_rfl:encR f u l<+:bs)).1
theorem no2 {bs:List Int}{x:Nat}(hx:enc x<+:bs)(h:∀y:Nat,y≤1048576→¬enc y<+:bs.drop (sz x)):No bs:=fun f u l hc he=>by
 obtain⟨h1,h2,h3,h4,h5⟩:=aQ hc
 obtain⟨p1,p2,_⟩:=parts (he▸List.prefix_rfl:encR f u l<+:bs)
 rw[←bJ _ _ _ hx p1]at p2
 exact h u.toNat (by omega) p2
theorem awW {bs:List Int}{x y:Nat}{l:List Ov}(hx:enc x<+:bs)(hy:enc y<+:bs.drop (sz x))(hm:enc l.length<+:bs.drop (sz x+sz y))(hl:iL l<+:bs.drop (sz x+sz y+sz l.length))(hc:∀o∈l,o.c=0)
  {f u:Int} {r:List Ov} (hr:chk f u r=0) (he:encR f u r<+:bs):f=x∧u=y∧r=l:=by
 obtain⟨h1,h2,h3,h4,h5⟩:=aQ hr
 obtain⟨p1,p2,p3,p4⟩:=parts he
 have ex:=bJ _ _ _ hx p1
 rw[←ex]at p2 p3 p4
 have ey:=bJ _ _ _ hy p2
 rw[←ey]at p3 p4
 have em:=bJ _ _ _ hm p3
 rw[←em]at p4
 exact⟨by omega,by omega,(aex l r _ em hc (vz h5) hl p4).symm⟩
theorem aom {f u f' u':Int}{l l':List Ov}{bs:List Int}(h:chk f u l=0)(h':chk f' u' l'=0)(he:encR f u l<+:bs)(he':encR f' u' l'<+:bs):f'=f∧u'=u∧l'=l:=by
 obtain⟨h1,h2,h3,h4,h5⟩:=aQ h
 obtain⟨p1,p2,p3,p4⟩:=parts he
 obtain⟨e1,e2,e3⟩:=awW p1 p2 p3 p4 (vz h5) h' he'
 exact⟨by omega,by omega,e3⟩
def Dc (bs:List Int) (f u:Int) (l:List Ov) (g:Int):Prop:=(g=0∧chk f u l=0∧encR f u l=bs)∨(g=5∧f=0∧u=0∧l=[]∧No bs)
end Go.Proofs.YtjemlgdkjilnoaaGreatDoor.Rn

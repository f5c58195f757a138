/- Texts. -/
import Derived.Test.YtlmkaljjocflmaaGreatDoorBG1
set_option maxRecDepth 100000
set_option maxHeartbeats 8000000
set_option linter.unusedVariables false
namespace Go.Proofs.YtlmkaljjocflmaaGreatDoor
namespace Orp
open Vm Bm
open Cm (Cv Good fol lastE lastN)
structure Se where
 e:Int
 f:Int
 cs:List Cv
def chk (s:Se):Int:=if s.e<1∨1048576<s.e∨s.f<0∨s.cs.length=0 then 2 else if (fol 1 s.f 0 s.cs).1=0 then(if s.e≤lastE 1 s.cs then 15 else 0)else(fol 1 s.f 0 s.cs).1
def hdr (s:Se):List Int:=enc s.e.toNat++(enc s.f.toNat++enc s.cs.length)
def sec (s:Se):List Int:=Fm.dK (hdr s)++Wl.dE s.cs
def No (bs:List Int):Prop:=∀t,chk t=0→¬sec t<+:bs
def Ris (a:Int):List Se→Prop
 |[]=>True
 |s::r=>chk s=0∧a<s.e∧Ris s.e r
def au9 (a:Int):List Se→Int
 |[]=>a
 |s::r=>au9 s.e r
def secs:List Se→List Int
 |[]=>[]
 |s::r=>sec s++secs r
def Sn (a:Int) (bs:List Int) (l:List Se):Prop:=Ris a l∧secs l<+:bs∧∀t,Ris (au9 a l) [t]→¬sec t<+:bs.drop (secs l).length
def has (l:List Se) (e n:Int):Bool:=l.any fun s=>s.cs.any fun c=>c.e==e&&c.n==n
end Orp
end Go.Proofs.YtlmkaljjocflmaaGreatDoor
namespace Go.Proofs.YtlmkaljjocflmaaGreatDoor.Dm
structure Rw where
 file:Nat
 cut:Bool
 to:Nat
 bytes:List Int
structure Ds where
 sure:Nat→List Int
 wait:List Rw
 on:Bool
 has:Bool
 left:Nat
 count:Nat
def upd (s:Nat→List Int) (f:Nat) (x:List Int):Nat→List Int:=fun j=>if j=f then x else s j
theorem ag5 (s:Nat→List Int)(f:Nat)(x:List Int):upd s f x f=x:=by simp[upd]
theorem alL {s:Nat→List Int}{f j:Nat}{x:List Int}(h:j≠f):upd s f x j=s j:=by simp[upd,h]
def qY (b:List Int) (r:Rw):List Int:=if r.cut then b.take r.to else b++r.bytes
def one (s:Nat→List Int) (r:Rw):Nat→List Int:=upd s r.file (qY (s r.file) r)
def dof (s:Nat→List Int):List Rw→Nat→List Int
 |[]=>s
 |r::l=>dof (one s r) l
theorem ahI:∀(l m:List Rw) (s:Nat→List Int),dof s (l++m)=dof (dof s l) m
 |[],_,_=>rfl
 |r::l,m,s=>ahI l m (one s r)
theorem ao3 (l:List Rw)(r:Rw)(s:Nat→List Int):dof s (l++[r])=one (dof s l) r:=ahI l [r] s
def hold (f:Nat) (b:List Int):List Rw→List Int
 |[]=>b
 |r::l=>hold f (if r.file=f then qY b r else b) l
theorem qH:∀(l:List Rw) (s:Nat→List Int) (f:Nat),hold f (s f) l=dof s l f
 |[],_,_=>rfl
 |r::l,s,f=>by
  rw[hold,dof,←qH l (one s r) f]
  congr 1
  by_cases h:r.file=f
  ·subst h;rw[if_pos rfl,one,ag5]
  ·rw[if_neg h,one,alL (Ne.symm h)]
theorem afK:∀(l m:List Rw) (b:List Int) (f:Nat),hold f b (l++m)=hold f (hold f b l) m
 |[],_,_,_=>rfl
 |r::l,m,b,f=>afK l m _ f
theorem ac5 (l:List Rw)(r:Rw)(b:List Int)(f:Nat):hold f b (l++[r])=if r.file=f then qY (hold f b l) r else hold f b l:=afK l [r] b f
def fits (s:Nat→List Int) (r:Rw):Prop:=r.file<4∧(r.cut=true→r.to≤(s r.file).length)∧(r.cut=false→1≤r.bytes.length∧r.bytes.length≤64)
def valid (s:Nat→List Int):List Rw→Prop
 |[]=>True
 |r::l=>fits s r∧valid (one s r) l
theorem rW:∀(l m:List Rw) (s:Nat→List Int),valid s (l++m)↔valid s l∧valid (dof s l) m
 |[],_,_=>by simp[valid,dof]
 |r::l,m,s=>by simp[valid,dof,rW l m,and_assoc]
theorem agw {l:List Rw}{s:Nat→List Int}(h:valid s l){k:Nat}{r:Rw}(hk:l[k]? =some r):fits (dof s (l.take k)) r:=by
 obtain⟨hlt,rfl⟩:=List.getElem?_eq_some_iff.1 hk
 rw[←List.take_append_drop k l,rW,List.drop_eq_getElem_cons hlt]at h
 exact h.2.1
def gH:List Rw→Nat
 |[]=>0
 |r::l=>r.bytes.length+gH l
theorem aaQ:∀(l m:List Rw),gH (l++m)=gH l+gH m
 |[],_=>by simp[gH]
 |r::l,m=>by simp[gH,aaQ l m];omega
theorem auB (b:List Int)(r:Rw):(qY b r).length≤b.length+r.bytes.length:=by
 unfold qY
 split
 ·rw[List.length_take];omega
 ·simp
theorem aax:∀(l:List Rw) (b:List Int) (f:Nat),(hold f b l).length≤b.length+gH l
 |[],_,_=>by simp[hold,gH]
 |r::l,b,f=>by
  have h1:=aax l (if r.file=f then qY b r else b) f
  have h2:=auB b r
  simp only[hold,gH]
  split at h1<;>simp_all<;>omega
def Sz (t u:Nat) (st:Ds):Prop:=(∀f,(st.sure f).length+gH st.wait≤t)∧st.wait.length≤u∧st.count≤u
def Ok (st:Ds):Prop:=valid st.sure st.wait
def off (st:Ds):Bool:=st.has&&st.left==0
def dQ (st:Ds):Ds:={st with left:=if st.has then st.left-1 else st.left,count:=st.count+1}
def lI (st:Ds):Ds:={st with on:=false}
def push (st:Ds) (r:Rw):Ds:={st with wait:=st.wait++[r]}
def wrt (file:Nat):Nat→Ds→List Int→Int×Ds
 |0,st,_=>(0,st)
 |n+1,st,bs=>if bs=[]then(0,st)else if off st then(6,lI st)else wrt file n (push (dQ st) ⟨file,false,0,bs.take 64⟩) (bs.drop 64)
def kS (file:Int):Bool:=decide (0≤file)&&decide (file<4)
def write (st:Ds) (file:Int) (bs:List Int):Int×Ds:=if st.on=false then(6,st)else if kS file=false then(2,st)else wrt file.toNat bs.length st bs
def flush (st:Ds):Ds:={st with sure:=dof st.sure st.wait,wait:=[]}
def sync (st:Ds):Int×Ds:=if st.on=false then(6,st)else if off st then(6,lI st)else(0,flush (dQ st))
def aaN (st:Ds) (n:Int):Int×Ds:=if st.on=false then(6,st)else if n<0 then(2,st)else(0,{st with has:=true,left:=n.toNat})
def pull (st:Ds):Int×Ds:=if st.on=false then(6,st)else(0,lI st)
def new:Ds:=⟨fun _=>[],[],true,false,0,0⟩
end Go.Proofs.YtlmkaljjocflmaaGreatDoor.Dm
namespace Go.Proofs.YtlmkaljjocflmaaGreatDoor
namespace Orp
open Dm
structure Q (b0:List Int) (st:Ds):Prop where
 su:b0<+:st.sure 3
 cu:∀r∈st.wait,r.file=3→r.cut=true→r.to=b0.length
end Orp
end Go.Proofs.YtlmkaljjocflmaaGreatDoor
namespace Go.Proofs.YtlmkaljjocflmaaGreatDoor
namespace Wl
open Dm
def hld (st:Ds):List Int:=hold 0 (st.sure 0) st.wait
def App (l:List Rw):Prop:=∀r∈l,r.cut=false
theorem acs:App []:=fun r h=>by simp at h
theorem qJ {l:List Rw}{r:Rw}(h:App l)(hr:r.cut=false):App (l++[r]):=fun x hx=>by
 rcases List.mem_append.1 hx with hx|hx
 ·exact h x hx
 ·rw[List.mem_singleton.1 hx];exact hr
end Wl
end Go.Proofs.YtlmkaljjocflmaaGreatDoor
namespace Go.Proofs.YtlmkaljjocflmaaGreatDoor
namespace Wl
open Dm Cm
structure Ws where
 d:Ds
 l:List Cv
 bk:Bool
def ask (s:Ws):Bool:=s.bk|| !s.d.on
def brk (s:Ws):Ws:=⟨s.d,s.l,true⟩
def mD (s:Ws) (c:Cv):Int×Ws:=
 if ask s then(6,brk s)else if chk c.e c.n c.l≠0 then(chk c.e c.n c.l,s)else if c.n-1≠s.l.length∨c.e<lastE 0 s.l then(15,s)
 else if (write s.d 0 (fr c)).1≠0 then((write s.d 0 (fr c)).1,⟨(write s.d 0 (fr c)).2,s.l,true⟩)else(0,⟨(write s.d 0 (fr c)).2,s.l++[c],false⟩)
def ag3 (s:Ws):Int×Ws:=if ask s then(6,brk s)else((sync s.d).1,⟨(sync s.d).2,s.l,decide ((sync s.d).1≠0)⟩)
theorem kH {l:List Cv}(h:Cm.Good 0 0 l):lastN 0 l=l.length:=by
 rcases List.eq_nil_or_concat l with rfl|⟨r,c,rfl⟩
 ·rfl
 ·have hk:(r.concat c)[r.length]? =some c:=by rw[List.concat_eq_append];simp
  have:=pU (r.concat c) 0 0 r.length c h hk
  rw[List.concat_eq_append,(dU r c 0 0).2,List.length_append,List.length_singleton]
  omega
theorem nU {l:List Cv}{c:Cv}(h:Cm.Good 0 0 l):Cm.Good 0 0 (l++[c])↔chk c.e c.n c.l=0∧¬(c.n-1≠l.length∨c.e<lastE 0 l):=by
 rw[fB]
 constructor
 ·rintro⟨_,h1,h2,h3,_⟩
  rw[kH h]at h2
  exact⟨h1,by omega⟩
 ·rintro⟨h1,h2⟩
  refine⟨h,h1,?_,?_,trivial⟩
  ·rw[kH h];omega
  ·omega
theorem adK:∀{l:List Cv} {ep nu:Int},Cm.Good ep nu l→(dE l).length≤433*l.length
 |[],_,_,_=>Nat.le_refl _
 |c::l,ep,nu,h=>by
  have h1:=lG (uE h)
  have h2:=adK (akR.1 h).2
  rw[aat,List.length_append,List.length_cons]
  omega
end Wl
end Go.Proofs.YtlmkaljjocflmaaGreatDoor
namespace Go.Proofs.YtlmkaljjocflmaaGreatDoor
namespace Wl
open Dm Cm
structure Kin (s:Ws) (all sure:List Cv):Prop where
 on:s.d.on=true
 bk:s.bk=false
 l:s.l=all
 good:Cm.Good 0 0 all
 app:App s.d.wait
 hld:hld s.d=dE all
 dur:dE sure<+:s.d.sure 0
 gs:Cm.Good 0 0 sure
structure azU (d:Ds) (all sure:List Cv):Prop where
 good:Cm.Good 0 0 all
 app:App d.wait
 hld:hld d<+:dE all
 dur:dE sure<+:d.sure 0
 gs:Cm.Good 0 0 sure
end Wl
end Go.Proofs.YtlmkaljjocflmaaGreatDoor
namespace Go.Proofs.YtlmkaljjocflmaaGreatDoor
namespace Pm
structure Pg where
 e:Int
 r:Int
 a:Int
 p:Int
 f:Int
 b:Int
def no:Pg:=⟨0,0,0,0,0,0⟩
abbrev Bnd (x:Pg):Prop:=1≤x.e∧x.e≤1048576∧0≤x.a∧x.a≤1048576∧0≤x.f∧x.f≤1048576∧0≤x.b∧x.b≤1073741824
abbrev Own (x:Pg):Prop:=
 (x.r=1∧x.p=0∧x.f=0∧x.b=0)∨(x.r=2∧x.a=0∧x.p=0∧x.f=0∧x.b=0)∨(x.r=3∧x.a=0∧x.p=1∧x.f=0∧x.b=0)∨(x.r=3∧x.a=0∧2≤x.p∧x.p≤4)
abbrev Ok (x:Pg):Prop:=Bnd x∧Own x
def chk (x:Pg):Int:=if Ok x then 0 else 2
theorem iV {x:Pg}(h:Ok x):chk x=0:=if_pos h
theorem iA {x:Pg}(h:¬Ok x):chk x=2:=if_neg h
theorem qg {x:Pg}:chk x=0↔Ok x:=by
 by_cases h:Ok x
 ·exact⟨fun _=>h,fun _=>iV h⟩
 ·exact⟨fun k=>by rw[iA h]at k;exact absurd k (by decide),fun k=>absurd k h⟩
theorem pX {x:Pg}(h:Ok x):1≤x.e∧x.e≤1048576∧1≤x.r∧x.r≤3∧0≤x.a∧x.a≤1048576∧0≤x.p∧x.p≤4∧0≤x.f∧x.f≤1048576∧0≤x.b∧x.b≤1073741824:=by
 obtain⟨⟨h1,h2,h3,h4,h5,h6,h7,h8⟩,h9⟩:=h
 unfold Own at h9
 omega
def nums (x:Pg):List Int:=[x.e,x.r,x.a,x.p,x.f,x.b]
def encs:List Int→List Int
 |[]=>[]
 |z::l=>Vm.enc z.toNat++encs l
theorem jT:∀l m:List Int,encs (l++m)=encs l++encs m
 |[],m=>rfl
 |z::l,m=>by simp[encs,jT l m]
def enc (x:Pg):List Int:=encs (nums x)
theorem vI:∀{l:List Int},(∀z∈l,z<18446744073709551616)→(encs l).length≤10*l.length∧l.length≤(encs l).length
 |[],_=>by simp[encs]
 |z::l,h=>by
  have h1:=vI (l:=l) (fun y hy=>h y (by simp[hy]))
  have h2:=h z (by simp)
  have h3:=Vm.lY (x:=z.toNat) (by omega)
  have h4:=Vm.yj z.toNat
  unfold Vm.sz at h3 h4
  simp[encs]
  omega
theorem aci {x:Pg}(h:Ok x):(enc x).length≤60:=by
 have:=pX h
 have:=(vI (l:=nums x) (fun z hz=>by simp[nums]at hz;omega)).1
 exact this
def Ls (bs:List Int) (z x:Pg) (n:Nat):Prop:=
 ∃l:List Pg,(∀y∈l,Ok y)∧Fm.cat (l.map enc)<+:bs∧n=(Fm.cat (l.map enc)).length∧x=l.getLast?.getD z∧∀y,Ok y→¬Fm.dK (enc y)<+:bs.drop n
def Go (bs:List Int) (z x:Pg) (n:Nat):Prop:=
 ∃l:List Pg,(∀y∈l,Ok y)∧Fm.cat (l.map enc)<+:bs∧n=(Fm.cat (l.map enc)).length∧x=l.getLast?.getD z
end Pm
end Go.Proofs.YtlmkaljjocflmaaGreatDoor
namespace Go.Proofs.YtlmkaljjocflmaaGreatDoor.Sm
abbrev S:=Int×Int
def Up (en:Int):Int→Int→List S→Prop
 |_,_,[]=>True
 |e,f,s::r=>e<s.1∧s.1≤1048576∧f<s.2∧s.2≤en∧Up en s.1 s.2 r
def upb (en:Int):Int→Int→List S→Bool
 |_,_,[]=>true
 |e,f,s::r=>(decide (e<s.1)&&decide (s.1≤1048576))&&((decide (f<s.2)&&decide (s.2≤en))&&upb en s.1 s.2 r)
theorem acF (en:Int):∀(e f:Int) (l:List S),upb en e f l=true↔Up en e f l
 |_,_,[]=>⟨fun _=>trivial,fun _=>rfl⟩
 |e,f,s::r=>by
  unfold upb Up
  rw[Bool.and_eq_true,Bool.and_eq_true,Bool.and_eq_true,Bool.and_eq_true,acF en s.1 s.2 r,decide_eq_true_iff,decide_eq_true_iff,decide_eq_true_iff,decide_eq_true_iff]
  constructor
  ·rintro⟨⟨h1,h2⟩,⟨h3,h4⟩,h5⟩
   exact⟨h1,h2,h3,h4,h5⟩
  ·rintro⟨h1,h2,h3,h4,h5⟩
   exact⟨⟨h1,h2⟩,⟨h3,h4⟩,h5⟩
def Ok (l:List S) (en:Int):Prop:=0≤en∧en≤1048576∧(l.length=0↔en=0)∧Up en 0 0 l∧((l.map Prod.snd).headD 1=1)
def okb (l:List S) (en:Int):Bool:=(decide (0≤en)&&decide (en≤1048576))&&(decide (l.length=0↔en=0)&&(upb en 0 0 l&&decide ((l.map Prod.snd).headD 1=1)))
theorem ait {l:List S}{en:Int}:okb l en=true↔Ok l en:=by
 unfold okb Ok
 rw[Bool.and_eq_true,Bool.and_eq_true,Bool.and_eq_true,Bool.and_eq_true,acF,decide_eq_true_iff,decide_eq_true_iff,decide_eq_true_iff,decide_eq_true_iff]
 constructor
 ·rintro⟨⟨h1,h2⟩,h3,h4,h5⟩
  exact⟨h1,h2,h3,h4,h5⟩
 ·rintro⟨h1,h2,h3,h4,h5⟩
  exact⟨⟨h1,h2⟩,h3,h4,h5⟩
def chk (l:List S) (en:Int):Int:=if okb l en=true then 0 else 5
theorem iV {l:List S}{en:Int}(h:Ok l en):chk l en=0:=if_pos (ait.2 h)
theorem iA {l:List S}{en:Int}(h:¬Ok l en):chk l en=5:=if_neg fun k=>h (ait.1 k)
theorem bJ {l:List S}{en:Int}:chk l en=0↔Ok l en:=by
 constructor
 ·intro h
  by_cases k:Ok l en
  ·exact k
  ·rw[iA k]at h;simp at h
 ·exact iV
def epo (n:Int):Int→List S→Int
 |e,[]=>e
 |e,s::r=>if s.2≤n then epo n s.1 r else e
def aY (l:List S):Int:=((l.map Prod.fst).getLast?).getD 0
theorem am9 {l:List S}{s:S}(h:l[l.length-1]? =some s):aY l=s.1:=by
 unfold aY
 rw[List.getLast?_eq_getElem?,List.length_map,List.getElem?_map,h]
 rfl
theorem at1 {l:List S}{k:Nat}{s:S}{en e f:Int}(h:l[k]? =some s):Up en e f (l.drop k)↔e<s.1∧s.1≤1048576∧f<s.2∧s.2≤en∧Up en s.1 s.2 (l.drop (k+1)):=by
 have hk:=(List.getElem?_eq_some_iff.1 h).1
 rw[List.drop_eq_getElem_cons hk,(List.getElem?_eq_some_iff.1 h).2]
 rfl
structure Bk (a:List S) (ae:Int) (b:List S) (be:Int) (p:Nat) (x:Int) (q:Nat) (y:Int):Prop where
 pa:p≤a.length
 qb:q≤b.length
 xa:(p=a.length∧x=ae)∨∃s:S,a[p]? =some s∧x=s.2-1
 yb:(q=b.length∧y=be)∨∃s:S,b[q]? =some s∧y=s.2-1
 no:∀m,m≤ae→m≤be→(x<m∨y<m)→epo m 0 a≠epo m 0 b
end Go.Proofs.YtlmkaljjocflmaaGreatDoor.Sm
namespace Go.Proofs.YtlmkaljjocflmaaGreatDoor
theorem mH {α:Type}{l:List α}{k:Nat}(h:k<l.length):∃s,l[k]? =some s:=⟨l[k],List.getElem?_eq_getElem h⟩
end Go.Proofs.YtlmkaljjocflmaaGreatDoor
namespace Go.Proofs.YtlmkaljjocflmaaGreatDoor.Mm
structure Msg where
 k:Int
 e:Int
 r:Int
 n:Int
 ss:List Sm.S
 f:Int
 p:Int
 cs:List Cm.Cv
def no:Msg:=⟨0,0,0,0,[],0,0,[]⟩
def Hel (m:Msg):Prop:=1≤m.r∧m.r≤3∧Sm.Ok m.ss m.n∧Sm.aY m.ss≤m.e∧m.f=0∧m.p=0∧m.cs=[]
def Shp (m:Msg):Prop:=1≤m.f∧m.f≤1048576∧0≤m.p∧m.p≤m.e∧(m.p=0↔m.f=1)∧m.cs.length≤4∧(∀c∈m.cs,c.e≤m.e)∧Cm.Good m.p (m.f-1) m.cs∧m.r=0∧m.n=0∧m.ss=[]
def Ack (m:Msg):Prop:=0≤m.n∧m.n≤1048576∧m.r=0∧m.ss=[]∧m.f=0∧m.p=0∧m.cs=[]
def Ok (m:Msg):Prop:=1≤m.e∧m.e≤1048576∧((m.k=1∧Hel m)∨(m.k=2∧Shp m)∨(m.k=3∧Ack m))
def Ck (m:Msg) (c:Int):Prop:=(c=0∧Ok m)∨(c=2∧¬Ok m)
def fl:List Sm.S→List Int
 |[]=>[]
 |s::l=>s.1::s.2::fl l
theorem tC:∀l:List Sm.S,(fl l).length=2*l.length
 |[]=>rfl
 |s::l=>by simp[fl,tC l];omega
theorem yF:∀l m:List Sm.S,fl (l++m)=fl l++fl m
 |[],m=>rfl
 |s::l,m=>by simp[fl,yF l m]
theorem agl:∀{l m:List Sm.S},fl l=fl m→l=m
 |[],[],_=>rfl
 |[],_::_,h=>by simp[fl]at h
 |_::_,[],h=>by simp[fl]at h
 |(a,b)::l,(c,d)::m,h=>by
  simp[fl]at h
  obtain⟨rfl,rfl,h⟩:=h
  rw[agl h]
def hd (m:Msg):List Int:=
 if m.k=1 then [m.k,m.e,m.r,m.n,(m.ss.length:Int)]++fl m.ss else if m.k=2 then [m.k,m.e,m.f,m.p,(m.cs.length:Int)]else [m.k,m.e,m.n]
theorem qj {m:Msg}(h:m.k=1):hd m=[m.k,m.e,m.r,m.n,(m.ss.length:Int)]++fl m.ss:=by unfold hd;rw[if_pos h]
theorem qi {m:Msg}(h:m.k=2):hd m=[m.k,m.e,m.f,m.p,(m.cs.length:Int)]:=by unfold hd;rw[if_neg (by omega),if_pos h]
theorem sJ {m:Msg}(h:m.k=3):hd m=[m.k,m.e,m.n]:=by unfold hd;rw[if_neg (by omega),if_neg (by omega)]
def cb (c:Cm.Cv):List Int:=Cm.fA c.e c.n c.l
def enc (m:Msg):List Int:=Pm.encs (hd m)++Fm.cat (m.cs.map cb)
theorem aoe {l:List Int}(h:Pm.encs l<+:[]):l=[]:=by
 cases l with
 |nil=>rfl
 |cons x l=>exact absurd ((List.prefix_append _ _).trans h) (Vm.pre_nil _)
theorem aaz:∀{l L:List Int},(∀z∈l,0≤z)→(∀z∈L,0≤z)→Pm.encs l<+:Pm.encs L→l<+:L
 |[],L,_,_,_=>List.nil_prefix
 |x::l,[],_,_,h=>by have:=aoe h;cases this
 |x::l,y::L,hx,hy,h=>by
  have h2:Vm.enc x.toNat<+:Pm.encs (y::L):=(List.prefix_append _ _).trans h
  have e:=Vm.dG _ _ _ h2 (List.prefix_append _ _)
  have ex:x=y:=by
   have:=hx x (by simp)
   have:=hy y (by simp)
   omega
  subst ex
  have h3:Pm.encs l<+:Pm.encs L:=by
   have:=Fm.jW (a:=Vm.enc x.toNat) (b:=Pm.encs l) h
   simpa[Pm.encs]using this
  have:=aaz (fun z hz=>hx z (by simp[hz])) (fun z hz=>hy z (by simp[hz])) h3
  exact(List.cons_prefix_cons).2 ⟨rfl,this⟩
theorem nV {l L bs:List Int}(hl:∀z∈l,0≤z)(hL:∀z∈L,0≤z)(h:Pm.encs l<+:bs)(h':Pm.encs L<+:bs):l<+:L∨L<+:l:=by
 rcases List.prefix_or_prefix_of_prefix h h' with g|g
 ·exact .inl (aaz hl hL g)
 ·exact .inr (aaz hL hl g)
theorem adO:∀(l:List Sm.S) (en e f:Int),0≤e→0≤f→en≤1048576→Sm.Up en e f l→∀z∈fl l,0≤z∧z≤1048576
 |[],_,_,_,_,_,_,_,z,hz=>by simp[fl]at hz
 |(a,b)::l,en,e,f,he,hf,hen,⟨h1,h2,h3,h4,h5⟩,z,hz=>by
  simp[fl]at hz
  simp at h1 h2 h3 h4
  rcases hz with rfl|rfl|hz
  ·omega
  ·omega
  ·exact adO l en a b (by omega) (by omega) hen h5 z hz
theorem sW:∀(l:List Sm.S) (en e f:Int),0≤f→Sm.Up en e f l→(l.length:Int)≤max 0 (en-f)
 |[],_,_,_,_,_=>by simp;omega
 |(a,b)::l,en,e,f,hf,⟨h1,h2,h3,h4,h5⟩=>by
  have:=sW l en a b (by simp at h3;omega) h5
  simp at h3 h4⊢
  omega
theorem gM {m:Msg}(h:Ok m):(∀z∈hd m,0≤z∧z≤1048576)∧3≤(hd m).length∧(hd m).getD 0 0=m.k∧(hd m).getD 1 0=m.e∧1≤m.k∧m.k≤3∧
  (m.k=1→5≤(hd m).length∧(hd m).getD 2 0=m.r∧m.r≤3∧(hd m).getD 3 0=m.n∧(hd m).getD 4 0=(m.ss.length:Int)∧(hd m).length=5+2*m.ss.length)∧
  (m.k=2→(hd m).length=5∧(hd m).getD 2 0=m.f∧(hd m).getD 3 0=m.p∧(hd m).getD 4 0=(m.cs.length:Int)∧m.cs.length≤4)∧
  (m.k=3→(hd m).length=3∧(hd m).getD 2 0=m.n):=by
 obtain⟨e1,e2,hk⟩:=h
 rcases hk with⟨k1,h1,h2,⟨o1,o2,o3,o4,o5⟩,h4,h5,h6,h7⟩|⟨k2,h1,h2,h3,h4,h5,h6,h7,h8,h9,h10,h11⟩|⟨k3,h1,h2,h3,h4,h5,h6,h7⟩
 ·rw[qj k1]
  have hln:=sW m.ss m.n 0 0 (by omega) o4
  refine⟨fun z hz=>?_,by simp,by simp,by simp,by omega,by omega,fun _=>⟨by simp,by simp,h2,by simp,by simp,by simp[tC];omega⟩,fun h=>by omega,fun h=>by omega⟩
  rcases List.mem_append.1 hz with hz|hz
  ·simp at hz
   rcases hz with rfl|rfl|rfl|rfl|rfl<;>omega
  ·exact adO m.ss m.n 0 0 (by omega) (by omega) o2 o4 z hz
 ·rw[qi k2]
  refine⟨fun z hz=>?_,by simp,by simp,by simp,by omega,by omega,fun h=>by omega,fun _=>⟨by simp,by simp,by simp,by simp,h6⟩,fun h=>by omega⟩
  simp at hz
  rcases hz with rfl|rfl|rfl|rfl|rfl<;>omega
 ·rw[sJ k3]
  refine⟨fun z hz=>?_,by simp,by simp,by simp,by omega,by omega,fun h=>by omega,fun h=>by omega,fun _=>⟨by simp,by simp⟩⟩
  simp at hz
  rcases hz with rfl|rfl|rfl<;>omega
theorem qR {m:Msg}(h:Ok m):∀z∈hd m,0≤z:=fun z hz=>((gM h).1 z hz).1
theorem oz {l L:List Int}(h:l<+:L){i:Nat}(hi:i<l.length):L.getD i 0=l.getD i 0:=by
 obtain⟨t,rfl⟩:=h
 simp[List.getD_eq_getElem?_getD,List.getElem?_append_left hi]
theorem ah8 {m m':Msg}(h:Ok m)(h':Ok m')(hp:hd m<+:hd m'):hd m=hd m':=by
 obtain⟨_,a1,a2,a3,a4,a5,a6,a7,a8⟩:=gM h
 obtain⟨_,b1,b2,b3,b4,b5,b6,b7,b8⟩:=gM h'
 have e0:=oz hp (i:=0) (by omega)
 rw[a2,b2]at e0
 refine hp.eq_of_length ?_
 have:m.k=1∨m.k=2∨m.k=3:=by omega
 rcases this with k|k|k
 ·have a:=a6 k
  have b:=b6 (by omega)
  have e4:=oz hp (i:=4) (by omega)
  rw[a.2.2.2.2.1,b.2.2.2.2.1]at e4
  omega
 ·have a:=a7 k
  have b:=b7 (by omega)
  omega
 ·have a:=a8 k
  have b:=b8 (by omega)
  omega
theorem vC:∀{l m:List (List Int)} {bs:List Int},l.length=m.length→Fm.cat l<+:bs→Fm.cat m<+:bs→l=m
 |[],[],_,_,_,_=>rfl
 |[],_::_,_,h,_,_=>by simp at h
 |_::_,[],_,h,_,_=>by simp at h
 |x::l,y::m,bs,h,h1,h2=>by
  have e:=Fm.ahK ((List.prefix_append _ _).trans h1) ((List.prefix_append _ _).trans h2)
  subst e
  rw[vC (by simpa using h) (Fm.jW h1) (Fm.jW h2)]
theorem uE:∀{l:List Cm.Cv} {ep nu:Int},Cm.Good ep nu l→∀c∈l,Cm.chk c.e c.n c.l=0
 |[],_,_,_,c,hc=>by simp at hc
 |d::l,_,_,⟨h1,_,_,h4⟩,c,hc=>by
  rcases List.mem_cons.1 hc with rfl|hc
  ·exact h1
  ·exact uE h4 c hc
theorem afq:∀{l m:List Cm.Cv},(∀c∈l,Cm.chk c.e c.n c.l=0)→(∀c∈m,Cm.chk c.e c.n c.l=0)→l.map cb=m.map cb→l=m
 |[],[],_,_,_=>rfl
 |[],_::_,_,_,h=>by simp at h
 |_::_,[],_,_,h=>by simp at h
 |c::l,d::m,h1,h2,h=>by
  simp at h
  obtain⟨e1,e2,e3⟩:=Cm.apw (h1 c (by simp)) (h2 d (by simp)) h.1
  have:c=d:=by cases c;cases d;simp at e1 e2 e3;simp[e1,e2,e3]
  subst this
  rw[afq (fun x hx=>h1 x (by simp[hx])) (fun x hx=>h2 x (by simp[hx])) h.2]
theorem yN {m:Msg}(h:Ok m):∀c∈m.cs,Cm.chk c.e c.n c.l=0:=by
 rcases h.2.2 with⟨_,_,_,_,_,_,_,h7⟩|⟨_,_,_,_,_,_,_,_,h8,_⟩|⟨_,_,_,_,_,_,_,h7⟩
 ·rw[h7];simp
 ·exact uE h8
 ·rw[h7];simp
theorem yL {m m':Msg}{bs:List Int}(h:Ok m)(h':Ok m')(h1:enc m<+:bs)(h2:enc m'<+:bs):m=m':=by
 have g1:Pm.encs (hd m)<+:bs:=(List.prefix_append _ _).trans h1
 have g2:Pm.encs (hd m')<+:bs:=(List.prefix_append _ _).trans h2
 have e:hd m=hd m':=by
  rcases nV (qR h) (qR h') g1 g2 with g|g
  ·exact ah8 h h' g
  ·exact(ah8 h' h g).symm
 have hcl:m.cs.length=m'.cs.length→m.cs=m'.cs:=fun hl=>by
  have c1:=Fm.jW h1
  have c2:=Fm.jW h2
  rw[←e]at c2
  exact afq (yN h) (yN h') (vC (by simpa using hl) c1 c2)
 obtain⟨_,_,a2,a3,a4,a5,a6,a7,a8⟩:=gM h
 obtain⟨_,_,b2,b3,b4,b5,b6,b7,b8⟩:=gM h'
 rw[e]at a2 a3
 have ek:m.k=m'.k:=a2.symm.trans b2
 have ee:m.e=m'.e:=a3.symm.trans b3
 rcases h.2.2 with⟨k,hh⟩|⟨k,hh⟩|⟨k,hh⟩
 ·rcases h'.2.2 with⟨k',gg⟩|⟨k',gg⟩|⟨k',gg⟩
  ·have e2:=e
   rw[qj k,qj k']at e2
   simp at e2
   have ess:=agl e2.2.2.2.2.2
   obtain⟨_,_,_,_,f1,p1,c1⟩:=hh
   obtain⟨_,_,_,_,f2,p2,c2⟩:=gg
   cases m;cases m'
   simp at*
   exact⟨ek,ee,e2.2.2.1,e2.2.2.2.1,ess,by omega,by omega,by rw[c1,c2]⟩
  ·omega
  ·omega
 ·rcases h'.2.2 with⟨k',gg⟩|⟨k',gg⟩|⟨k',gg⟩
  ·omega
  ·have e2:=e
   rw[qi k,qi k']at e2
   simp at e2
   have ecs:=hcl (by omega)
   obtain⟨_,_,_,_,_,_,_,_,r1,n1,s1⟩:=hh
   obtain⟨_,_,_,_,_,_,_,_,r2,n2,s2⟩:=gg
   cases m;cases m'
   simp at*
   exact⟨ek,ee,by omega,by omega,by rw[s1,s2],e2.2.2.1,e2.2.2.2.1,ecs⟩
  ·omega
 ·rcases h'.2.2 with⟨k',gg⟩|⟨k',gg⟩|⟨k',gg⟩
  ·omega
  ·omega
  ·have e2:=e
   rw[sJ k,sJ k']at e2
   simp at e2
   obtain⟨_,_,r1,s1,f1,p1,c1⟩:=hh
   obtain⟨_,_,r2,s2,f2,p2,c2⟩:=gg
   cases m;cases m'
   simp at*
   exact⟨ek,ee,by omega,e2.2.2,by rw[s1,s2],by omega,by omega,by rw[c1,c2]⟩
def Dc (bs:List Int) (m:Msg) (g:Int):Prop:=
 (g=0∧Ok m∧bs=enc m)∨(g=5∧m=no∧∀m',Ok m'→bs≠enc m')
theorem anA {bs:List Int}{m m':Msg}{g g':Int}(h:Dc bs m g)(h':Dc bs m' g'):m=m'∧g=g':=by
 rcases h with⟨rfl,h1,h2⟩|⟨rfl,rfl,h2⟩<;>rcases h' with⟨rfl,g1,g2⟩|⟨rfl,rfl,g2⟩
 ·exact⟨yL h1 g1 (bs:=bs) (by rw[h2];exact List.prefix_refl _) (by rw[g2];exact List.prefix_refl _),rfl⟩
 ·exact absurd h2 (g2 m h1)
 ·exact absurd g2 (h2 m' g1)
 ·exact⟨rfl,rfl⟩
theorem avn {m:Msg}(h:Ok m):Dc (enc m) m 0:=.inl ⟨rfl,h,rfl⟩
theorem atd {bs l:List Int}{mx:Nat}(hp:∀z∈l,0≤z)(h:Pm.encs l<+:bs)(hn:∀u:Nat,u≤mx→¬Vm.enc u<+:bs.drop (Pm.encs l).length)
  (hq:∀m,Ok m→(l<+:hd m∨hd m<+:l)→l.length<(hd m).length∧(hd m).getD l.length 0≤mx):Dc bs no 5:=by
 refine .inr ⟨rfl,rfl,fun m hm e=>?_⟩
 have h2:Pm.encs (hd m)<+:bs:=by rw[e];exact List.prefix_append _ _
 have hc:=nV hp (qR hm) h h2
 obtain⟨q1,q2⟩:=hq m hm hc
 have hl:l<+:hd m:=by
  rcases hc with hc|hc
  ·exact hc
  ·have:=hc.length_le;omega
 obtain⟨t,ht⟩:=hl
 cases t with
 |nil=>rw[List.append_nil]at ht;rw[ht]at q1;omega
 |cons x t=>
  have hx:(hd m).getD l.length 0=x:=by rw[←ht];simp[List.getD_eq_getElem?_getD]
  rw[hx]at q2
  have hx0:0≤x:=qR hm x (by rw[←ht];simp)
  refine hn x.toNat (by omega) ?_
  have e2:bs=Pm.encs l++(Vm.enc x.toNat++(Pm.encs t++Fm.cat (m.cs.map cb))):=by
   rw[e]
   unfold enc
   rw[←ht,Pm.jT]
   simp[Pm.encs]
  rw[e2,List.drop_left]
  exact List.prefix_append _ _
end Go.Proofs.YtlmkaljjocflmaaGreatDoor.Mm
namespace Go.Proofs.YtlmkaljjocflmaaGreatDoor
namespace Rol
open Pm (Pg chk no Ok)
def prE (x:Pg) (n:Int):Int:=if chk x=0 then(if n<0∨1048576<n then 2 else if x.r=1 then 10 else if x.r=3 then 9 else if x.e=1048576 then 2 else 0)else chk x
def wy (x:Pg) (n:Int):Int:=if chk x=0 then(if n<1∨1048576<n then 2 else 0)else chk x
def wX (x:Pg) (n:Int):Bool:=decide (wy x n=0)&&decide (x.e<n)
def he (x:Pg) (n:Int):Pg:=if wy x n=0 then(if x.e<n then⟨n,3,0,1,0,0⟩else x)else no
def mK (x:Pg) (n:Int):Int:=if chk x=0 then(if n<0∨1048576<n then 2 else if x.r=1 then 0 else 15)else chk x
def jF (x:Pg) (n:Int):Bool:=decide (mK x n=0)&&decide (x.a<n)
def ak (x:Pg) (n:Int):Pg:=if mK x n=0 then(if x.a<n then⟨x.e,x.r,n,x.p,x.f,x.b⟩else x)else no
def vW (x:Pg):Int:=if chk x=0 then(if x.r=2 then 11 else if x.r=3 then 9 else 0)else chk x
def mE (x:Pg):Int:=if chk x=0 then(if x.r=3 then 9 else 0)else chk x
theorem arw {x:Pg}(h:Ok x):(x.p=0→x.r=1∨x.r=2)∧(x.p≠0→x.r=3∧x.a=0)∧(x.p=1→x.f=0∧x.b=0)∧(x.r=1→x.p=0∧x.f=0∧x.b=0)∧(x.r=2→x.a=0∧x.p=0∧x.f=0∧x.b=0):=by
 obtain⟨_,h⟩:=h
 rcases h with h|h|h|h<;>refine⟨?_,?_,?_,?_,?_⟩<;>intro q<;>omega
end Rol
end Go.Proofs.YtlmkaljjocflmaaGreatDoor
namespace Go.Proofs.YtlmkaljjocflmaaGreatDoor
namespace Tak
open Cm (Cv Good fol lastE lastN)
open Mm (Msg)
def wO (c e:Int) (m:Msg):Int:=if c=0 then(if m.e<e then 12 else if e<m.e then 2 else 0)else 2
def knB (m:Msg):Bool:=decide (m.k=3)||(decide (m.k=1)&&decide (m.r=2))
def yx (c e k:Int) (m:Msg):Int:=if wO c e m=0 then(if knB m=true then max k m.n else max k 0)else 0
def knF (c e:Int) (m:Msg):Bool:=decide (wO c e m=0)&&knB m
end Tak
end Go.Proofs.YtlmkaljjocflmaaGreatDoor

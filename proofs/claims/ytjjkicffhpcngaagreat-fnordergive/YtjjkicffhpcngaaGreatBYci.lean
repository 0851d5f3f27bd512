/- Who gives for storing, or takes for reading, is a program if and only if it was. Plainly. No condition. -/
import Derived.Below
import Derived.BigQuiet
import Derived.Deep.AppendLies
import Derived.Deep.CutRange
import Derived.Deep.MidRow
import Derived.Deep.Quiet
import Derived.Deep.QuietTactic
import Derived.Deep.RegionHeld3
import Derived.Deep.RegionLaw
import Derived.Deep.RegionWith
import Derived.Deep.Slices
import Derived.Deep.WholeRow
import Derived.Handy
import Derived.Laws.AppendOwn
import Derived.Laws.AppendOwnNone
import Derived.Laws.EntriesVeiled
import Derived.Laws.IdiomCopy
import Derived.Laws.OwnMore
import Derived.LoopIn
import Derived.LoopN
import Derived.LoopNIn
import Derived.Maps.OwnIn
import Derived.OwnWalkIn
import Derived.RangeFuncBound
import Derived.RangeFuncLeaves
import Derived.RangeFuncNested
import Derived.Shelf.Abstract
import Derived.Shelf.SlSortCmp.NoneTotal
import Derived.Sort.Grow
import Derived.TacticsInMore
import Derived.WalkKit
import Derived.WalkLawsBesides
import Derived.WalkSpells
import Derived.Deep.OwnRows
import Derived.Test.YtjjkicffhpcngaaGreatRows
import Derived.Test.YtjjkicffhpcngaaGreatBYcc
namespace Go.Proofs.YtjjkicffhpcngaaGreat
namespace M
theorem Upg.k3 {d e:D} (h:Upg d e):(e.k==3)=(d.k==3):=h.eq (by omega)
theorem Upg.st {d e:D} (h:Upg d e):stores e.k=stores d.k:=by
 rcases h with rfl | ⟨h,rfl⟩ | ⟨h,rfl⟩
 ·rfl
 ·rw [h];rfl
 ·rw [h];rfl
theorem Upg.us {d e:D} (h:Upg d e):uses e.k=uses d.k:=by unfold uses;rw [h.rd,h.wr]
theorem Upg.wd {d e:D} (h:Upg d e):wordOk e.k=wordOk d.k:=by
 rcases h with rfl | ⟨h,rfl⟩ | ⟨h,rfl⟩
 ·rfl
 ·rw [h];rfl
 ·rw [h];rfl
theorem Upg.ok {d e:D} (h:Upg d e):doOk e=doOk d:=by
 unfold doOk placeOk valOk
 rw [h.wd,h.us,h.st,h.p,h.v]
theorem UpL.form {l m:List D} (h:UpL l m):M.form m=M.form l:=by
 unfold M.form
 induction h with
 | nil=>rfl
 | cons h _ ih=>rw [List.all_cons,List.all_cons,ih,h.ok]
theorem UpL.copies {l m:List D} (h:UpL l m):∀ r,M.copies r m=M.copies r l:=by
 induction h with
 | nil=>intro r;rfl
 | cons h _ ih=>intro r;rw [M.copies,M.copies,h.k3,h.rd,ih]
theorem UpL.readers {l m:List D} (h:UpL l m):∀ i,M.readers i m=M.readers i l:=by
 induction h with
 | nil=>intro i;rfl
 | cons h _ ih=>intro i;rw [M.readers,M.readers,h.eq (κ:=7) (by omega),h.eq (κ:=8) (by omega),h.eq (κ:=9) (by omega),ih,ih,ih]
theorem UpL.len {l m:List D} (h:UpL l m):m.length=l.length:=by
 induction h with
 | nil=>rfl
 | cons _ _ ih=>rw [List.length_cons,List.length_cons,ih]
theorem UpL.cnt {l m:List D} (h:UpL l m):M.cnt M.uses m=M.cnt M.uses l:=by
 induction h with
 | nil=>rfl
 | cons h _ ih=>rw [cnt_cons,cnt_cons,ih,h.us]
theorem UpL.thread {l m:List D} (h:UpL l m):M.thread m=M.thread l:=by
 unfold M.thread
 rw [h.len,h.form,h.copies,h.readers]
theorem UpP.from_ {ll mm:List (List D)} (h:UpP ll mm):∀ a u,progFrom a u mm=progFrom a u ll:=by
 induction h with
 | nil=>intro a u;rfl
 | cons h _ ih=>intro a u;rw [progFrom,progFrom,h.thread,h.len,h.cnt,ih]
theorem UpP.len {ll mm:List (List D)} (h:UpP ll mm):mm.length=ll.length:=by
 induction h with
 | nil=>rfl
 | cons _ _ ih=>rw [List.length_cons,List.length_cons,ih]
theorem UpP.prog {ll mm:List (List D)} (h:UpP ll mm):M.prog mm=M.prog ll:=by
 unfold M.prog
 rw [h.len,h.from_]
end M
end Go.Proofs.YtjjkicffhpcngaaGreat

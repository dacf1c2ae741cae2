/-
  The plain side of the reference's Cut; the world behind its stores.
-/
import Derived.Test.YtmahbcpkilegpaaStoRefSync
namespace Go.Proofs.Ytmahbcpkilegpaa
open Go.RowKit St

theorem cut_at {s : S} (h : Inv s) {nm : List UInt8} {k : Nat} (hk : k < s.fs.length) (hf : find nm s.fs = some (s.fs[k]'hk)) (n : Nat) : cutL s nm n = s.fs.set k { nm := (s.fs[k]'hk).nm, zs := (s.fs[k]'hk).zs.take n, sure := min (s.fs[k]'hk).sure n } := by
  obtain ⟨e1, e2, e3⟩ := file_mem hf
  unfold cutL
  rw [e1]
  refine Eq.trans ?_ (put_set s.fs k hk { nm := (s.fs[k]'hk).nm, zs := (s.fs[k]'hk).zs.take n, sure := min (s.fs[k]'hk).sure n } h.sorted rfl)
  rw [e3]
theorem drop_at {s : S} (h : Inv s) {nm : List UInt8} {k : Nat} (hk : k < s.fs.length) (hf : find nm s.fs = some (s.fs[k]'hk)) : del nm s.fs = s.fs.take k ++ s.fs.drop (k + 1) := by
  obtain ⟨e1, e2, e3⟩ := file_mem hf
  rw [← del_at s.fs k hk h.sorted, e3]
theorem app_at {s : S} (h : Inv s) {nm : List UInt8} {k : Nat} (hk : k < s.fs.length) (hf : find nm s.fs = some (s.fs[k]'hk)) (zs : List Int) : appL s nm zs = s.fs.set k { nm := (s.fs[k]'hk).nm, zs := (s.fs[k]'hk).zs ++ zs, sure := (s.fs[k]'hk).sure } := by
  obtain ⟨e1, e2, e3⟩ := file_mem hf
  unfold appL
  rw [e1]
  refine Eq.trans ?_ (put_set s.fs k hk { nm := (s.fs[k]'hk).nm, zs := (s.fs[k]'hk).zs ++ zs, sure := (s.fs[k]'hk).sure } h.sorted rfl)
  rw [e3]
section
variable {w : World} {R : Nat} {own : Nat → Prop} {s : S} {rf : Int} {rk : List Int} {Ad : List UInt8 → Option Addr × Nat} {fa : Option Addr} {fc : Nat} {ka : Option Addr} {kc : Nat}
/-- The bytes, and how far they are sure, both stored (Cut, where it was sure further). -/
theorem RP.both (h : RP w R own s rf rk Ad fa fc ka kc) {k g : Nat} (hk : k < s.fs.length) (hg : fa = some ⟨g, 0, none⟩) {A : Option Addr} {c x : Nat} {zs : List Int} (hx : x ≤ zs.length) (htot : zs.length ≤ (s.fs[k]'hk).zs.length)
    {base : Nat} (hown : OwnB w base A c zs) (hbase : ∀ j, own j → j < base) :
    RP ((w.setCell ⟨g, k * 3 + 1, none⟩ (.slice A zs.length c)).setCell ⟨g, k * 3 + 2, none⟩ (.int .i64 (x : Int))) R (fun j => own j ∨ ∃ a, A = some a ∧ j = a.block) { s with fs := s.fs.set k { nm := (s.fs[k]'hk).nm, zs := zs, sure := x } } rf rk (turnAd Ad (s.fs[k]'hk).nm (A, c)) fa fc ka kc := by
  have hfl := h.rs.files
  have hkb : ∀ j, j ≠ g → ((w.setCell ⟨g, k * 3 + 1, none⟩ (.slice A zs.length c)).setCell ⟨g, k * 3 + 2, none⟩ (.int .i64 (x : Int))).heap[j]? = w.heap[j]? := fun j hj => by
    rw [Below.heap_setCell _ _ _ _ hj, Below.heap_setCell _ _ _ _ hj]
  have hsz : ((w.setCell ⟨g, k * 3 + 1, none⟩ (.slice A zs.length c)).setCell ⟨g, k * 3 + 2, none⟩ (.int .i64 (x : Int))).heap.size = w.heap.size := by simp [World.setCell]
  have hgo : own g := h.ownF ⟨g, 0, none⟩ hg
  have hlt : ∀ a, A = some a → base ≤ a.block ∧ a.block < w.heap.size := fun a ha => by subst ha; exact OwnB.lt hown
  have ht := total_set s.fs k hk { nm := (s.fs[k]'hk).nm, zs := zs, sure := x }
  have h0 := h.rs.inv.tot
  refine h.file (f' := { nm := (s.fs[k]'hk).nm, zs := zs, sure := x }) hk hg rfl hx (by simp only at ht; omega) (Nat.le_of_eq hsz.symm) (fun j _ hj => hkb j hj) ?_ ?_ (fun a ha => ⟨by rw [hsz]; exact (hlt a ha).2, .inl fun ho => by have := hbase _ ho; have := (hlt a ha).1; omega⟩)
  · subst hg
    have e := ownsRow_set (ownsRow_set hfl (k * 3 + 1) (.slice A zs.length c)) (k * 3 + 2) (.int .i64 (x : Int))
    rw [flat3_file Ad A c { nm := (s.fs[k]'hk).nm, zs := zs, sure := x } s.fs k hk h.rs.inv.sorted rfl] at e
    exact e
  · exact (hown.low (Nat.zero_le _)).keep fun a ha => hkb _ (by have := hbase g hgo; have := (hlt a ha).1; omega)
end
end Go.Proofs.Ytmahbcpkilegpaa

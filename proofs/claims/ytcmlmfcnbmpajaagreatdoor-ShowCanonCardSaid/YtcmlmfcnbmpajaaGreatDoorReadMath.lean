/- Plain facts on the document's reader of tokens: what each of its steps comes to, as total functions over 'what is to come, or a fault'; that a whole text comes to what the parser's own words tell, or both find a fault. Imports no program. -/
import Derived.Test.YtcmlmfcnbmpajaaGreatDoorPlain
namespace Go.Proofs.YtcmlmfcnbmpajaaGreatDoor.Sw
open Lx Sh
set_option linter.unusedVariables false
set_option linter.unusedSimpArgs false

/-- what is to come, or none: there was a fault -/
abbrev St := Option (List Tok)
def zTok : Tok := ⟨0, [], 0, 0, 0⟩
def endTok : Tok := ⟨4, [], 0, 1, 1⟩
/-- the token that is next, where there is one -/
def nowL : List Tok → Tok
  | [] => endTok
  | t :: _ => t
def takeS (k : Int) (key : List UInt8) : St → Tok × St
  | none => (zTok, none)
  | some [] => (zTok, none)
  | some (t :: r) => if t.kind = k ∧ (k = 2 → t.text = key) then (t, some r) else (zTok, none)
def nameS (st : St) : List UInt8 × St := ((takeS 1 [] st).1.text, (takeS 1 [] st).2)
def numS (st : St) : Int × St := ((takeS 3 [] st).1.num, (takeS 3 [] st).2)
def keyS (w : List UInt8) (st : St) : St := (takeS 2 w st).2
def afterS (w : List UInt8) (st : St) : Int × St := numS (keyS w st)
def timesS (w : List UInt8) (st : St) : TimesM × St :=
  (⟨(afterS kFrom st).1, (afterS kEvery (afterS kFrom st).2).1, (afterS w (afterS kEvery (afterS kFrom st).2).2).1⟩, (afterS w (afterS kEvery (afterS kFrom st).2).2).2)
def pathS (st : St) : PathM × St :=
  (⟨(nameS st).1, (nameS (nameS st).2).1, (nameS (nameS (nameS st).2).2).1, (numS (nameS (nameS (nameS st).2).2).2).1⟩, (numS (nameS (nameS (nameS st).2).2).2).2)
def doorS (st : St) : DoorM × St :=
  (⟨(pathS st).1.name, (pathS st).1.a, (pathS st).1.b, (pathS st).1.len, (timesS kOpen (pathS st).2).1⟩, (timesS kOpen (pathS st).2).2)
def nameAfterS (w : List UInt8) (st : St) : List UInt8 × St := nameS (keyS w st)
def tripS (st : St) : TripM × St :=
  (⟨(nameS st).1, (nameAfterS kOf (nameS st).2).1, (timesS kUntil (nameAfterS kOf (nameS st).2).2).1.frm, (timesS kUntil (nameAfterS kOf (nameS st).2).2).1.every, (timesS kUntil (nameAfterS kOf (nameS st).2).2).1.len⟩, (timesS kUntil (nameAfterS kOf (nameS st).2).2).2)
def hazS (st : St) : HazM × St :=
  (⟨(nameS st).1, (nameAfterS kOn (nameS st).2).1, (timesS kClosed (nameAfterS kOn (nameS st).2).2).1⟩, (timesS kClosed (nameAfterS kOn (nameS st).2).2).2)
structure LegS where
  stops : List (List UInt8)
  rides : List Int
  stays : List Int
/-- a ride's end: where there are as many stops as may be, a word more is a fault -/
def overS (n : Nat) : St → St
  | none => none
  | some ts => if n = 32 ∧ (nowL ts).kind = 1 then none else some ts
def stayS (ts : List Tok) : Int × St := if (nowL ts).kind = 2 ∧ (nowL ts).text = kStay then afterS kStay (some ts) else (0, some ts)
def legsS : Nat → St → LegS → LegS × St
  | _, none, g => (g, none)
  | 0, some _, g => (g, none)
  | n + 1, some ts, g =>
    match nameS (overS g.stops.length (numS (some ts)).2) with
    | (m, none) => (⟨g.stops ++ [m], g.rides ++ [(numS (some ts)).1], g.stays⟩, none)
    | (m, some r) => if (nowL r).kind = 4 then (⟨g.stops ++ [m], g.rides ++ [(numS (some ts)).1], g.stays⟩, some r)
      else legsS n (stayS r).2 ⟨g.stops ++ [m], g.rides ++ [(numS (some ts)).1], g.stays ++ [(stayS r).1]⟩
def lenS : St → Nat
  | none => 0
  | some ts => ts.length
def routeS (st : St) : RouteM × St :=
  let g := legsS (lenS (nameS (nameS st).2).2 + 1) (nameS (nameS st).2).2 ⟨[(nameS (nameS st).2).1], [], []⟩
  (⟨(nameS st).1, g.1.stops, g.1.rides, g.1.stays⟩, g.2)
def kinds : List (List UInt8) := [kStop, kPath, kDoor, kRoute, kTrip, kHazard]
def fullS (x : SheetM) (key : List UInt8) : Bool :=
  if key = kStop then decide (256 ≤ x.stops.length) else if key = kPath then decide (1024 ≤ x.paths.length) else if key = kDoor then decide (256 ≤ x.doors.length)
  else if key = kRoute then decide (256 ≤ x.routes.length) else if key = kTrip then decide (1024 ≤ x.trips.length) else if key = kHazard then decide (256 ≤ x.hazards.length) else false
def thingS (key : List UInt8) (x : SheetM) (st : St) : SheetM × St :=
  if key = kStop then ({ x with stops := x.stops ++ [(nameS st).1] }, (nameS st).2)
  else if key = kPath then ({ x with paths := x.paths ++ [(pathS st).1] }, (pathS st).2)
  else if key = kDoor then ({ x with doors := x.doors ++ [(doorS st).1] }, (doorS st).2)
  else if key = kRoute then ({ x with routes := x.routes ++ [(routeS st).1] }, (routeS st).2)
  else if key = kTrip then ({ x with trips := x.trips ++ [(tripS st).1] }, (tripS st).2)
  else ({ x with hazards := x.hazards ++ [(hazS st).1] }, (hazS st).2)
def lineS (x : SheetM) (t : Tok) (r : List Tok) : SheetM × St :=
  if t.kind = 2 ∧ t.text ∈ kinds then (if fullS x t.text = true then (x, none) else ((thingS t.text x (some r)).1, (takeS 4 [] (thingS t.text x (some r)).2).2)) else (x, none)
def runS : Nat → SheetM → St → SheetM × St
  | _, x, none => (x, none)
  | _, x, some [] => (x, some [])
  | 0, x, some (_ :: _) => (x, none)
  | n + 1, x, some (t :: r) => runS n (lineS x t r).1 (lineS x t r).2
def parseS (toks : List Tok) : SheetM × St :=
  runS (toks.length - 1) { emptyM with horizon := (numS (keyS kHorizon (some toks))).1 } (takeS 4 [] (numS (keyS kHorizon (some toks))).2).2

/-- the same, or both a fault -/
def Link {α : Type} : PR α → α × St → Prop
  | .ok a r, s => s = (a, some r)
  | .bad _ _ _, s => s.2 = none
theorem Link.cases {α : Type} {p : PR α} {s : α × St} (hp : Link p s) : (∃ a r, p = .ok a r ∧ s = (a, some r)) ∨ ((∃ e l c, p = .bad e l c) ∧ ∃ a, s = (a, none)) := by
  cases p with
  | bad e l c =>
    obtain ⟨a, st⟩ := s
    have h : st = none := hp
    subst h
    exact .inr ⟨⟨e, l, c, rfl⟩, a, rfl⟩
  | ok a r => exact .inl ⟨a, r, rfl, hp⟩
theorem take_none (k : Int) (key : List UInt8) : takeS k key none = (zTok, none) := rfl
theorem take_cons (k : Int) (key : List UInt8) (t : Tok) (r : List Tok) : takeS k key (some (t :: r)) = if t.kind = k ∧ (k = 2 → t.text = key) then (t, some r) else (zTok, none) := rfl
theorem name_none : nameS none = ([], none) := rfl
theorem num_none : numS none = (0, none) := rfl
theorem key_none (w : List UInt8) : keyS w none = none := rfl
theorem after_none (w : List UInt8) : afterS w none = (0, none) := rfl
theorem times_none (w : List UInt8) : timesS w none = (⟨0, 0, 0⟩, none) := rfl
theorem link_take {k : Int} (hk : k ≠ 2) (key : List UInt8) (ts : List Tok) : Link (takeM k ts) (takeS k key (some ts)) := by
  cases ts with
  | nil => rfl
  | cons t r =>
    by_cases h : t.kind = k
    · simp only [takeM, takeS, if_pos h]
      rw [if_pos ⟨h, fun e => absurd e hk⟩]
      rfl
    · simp only [takeM, takeS, if_neg h]
      rw [if_neg (fun e => h e.1)]
      rfl
theorem link_name (ts : List Tok) : Link (nameM ts) (nameS (some ts)) := by
  unfold nameM nameS
  rcases (link_take (k := 1) (by decide) [] ts).cases with ⟨x0, r0, h1, h2⟩ | ⟨⟨_, _, _, h1⟩, _, h2⟩
  rotate_left
  · rw [h1, h2]; rfl
  rw [h1, h2, bind_ok]
  rfl
theorem link_num (ts : List Tok) : Link (numM ts) (numS (some ts)) := by
  unfold numM numS
  rcases (link_take (k := 3) (by decide) [] ts).cases with ⟨x0, r0, h1, h2⟩ | ⟨⟨_, _, _, h1⟩, _, h2⟩
  rotate_left
  · rw [h1, h2]; rfl
  rw [h1, h2, bind_ok]
  rfl
theorem link_key (k : List UInt8) (ts : List Tok) : Link (keyM k ts) ((), keyS k (some ts)) := by
  cases ts with
  | nil => rfl
  | cons t r =>
    unfold keyM keyS
    by_cases h : t.kind = 2
    · simp only [takeM, if_pos h, bind_ok]
      by_cases ht : t.text = k
      · rw [if_pos ht]
        show ((), (takeS 2 k (some (t :: r))).2) = ((), some r)
        rw [take_cons, if_pos ⟨h, fun _ => ht⟩]
      · rw [if_neg ht]
        show (takeS 2 k (some (t :: r))).2 = none
        rw [take_cons, if_neg (fun e => ht (e.2 rfl))]
    · simp only [takeM, if_neg h, bind_bad]
      show (takeS 2 k (some (t :: r))).2 = none
      rw [take_cons, if_neg (fun e => h e.1)]
theorem key_cases (k : List UInt8) (ts : List Tok) : (∃ r, keyM k ts = .ok () r ∧ keyS k (some ts) = some r) ∨ ((∃ e l c, keyM k ts = .bad e l c) ∧ keyS k (some ts) = none) := by
  rcases (link_key k ts).cases with ⟨_, r, h1, h2⟩ | ⟨h1, _, h2⟩
  · exact .inl ⟨r, h1, by injection h2⟩
  · exact .inr ⟨h1, by injection h2⟩
theorem link_after (k : List UInt8) (ts : List Tok) : Link (behindM k ts) (afterS k (some ts)) := by
  unfold behindM afterS
  rcases key_cases k ts with ⟨r, h1, h2⟩ | ⟨⟨_, _, _, h1⟩, h2⟩
  · rw [h1, h2, bind_ok]; exact link_num r
  · rw [h1, h2]; rfl
theorem link_nameAfter (k : List UInt8) (ts : List Tok) : Link (nameBehindM k ts) (nameAfterS k (some ts)) := by
  unfold nameBehindM nameAfterS
  rcases key_cases k ts with ⟨r, h1, h2⟩ | ⟨⟨_, _, _, h1⟩, h2⟩
  · rw [h1, h2, bind_ok]; exact link_name r
  · rw [h1, h2]; rfl
theorem link_times (k : List UInt8) (ts : List Tok) : Link (timesM k ts) (timesS k (some ts)) := by
  unfold timesM timesS
  rcases (link_after kFrom ts).cases with ⟨x0, r0, h1, h2⟩ | ⟨⟨_, _, _, h1⟩, _, h2⟩
  rotate_left
  · rw [h1, h2]; rfl
  rw [h1, h2, bind_ok]
  rcases (link_after kEvery r0).cases with ⟨x1, r1, h1, h2⟩ | ⟨⟨_, _, _, h1⟩, _, h2⟩
  rotate_left
  · rw [h1, h2]; rfl
  rw [h1, h2, bind_ok]
  rcases (link_after k r1).cases with ⟨x2, r2, h1, h2⟩ | ⟨⟨_, _, _, h1⟩, _, h2⟩
  rotate_left
  · rw [h1, h2]; rfl
  rw [h1, h2, bind_ok]
  rfl
theorem link_path (ts : List Tok) : Link (pathT ts) (pathS (some ts)) := by
  unfold pathT pathS
  rcases (link_name ts).cases with ⟨x0, r0, h1, h2⟩ | ⟨⟨_, _, _, h1⟩, _, h2⟩
  rotate_left
  · rw [h1, h2]; rfl
  rw [h1, h2, bind_ok]
  rcases (link_name r0).cases with ⟨x1, r1, h1, h2⟩ | ⟨⟨_, _, _, h1⟩, _, h2⟩
  rotate_left
  · rw [h1, h2]; rfl
  rw [h1, h2, bind_ok]
  rcases (link_name r1).cases with ⟨x2, r2, h1, h2⟩ | ⟨⟨_, _, _, h1⟩, _, h2⟩
  rotate_left
  · rw [h1, h2]; rfl
  rw [h1, h2, bind_ok]
  rcases (link_num r2).cases with ⟨x3, r3, h1, h2⟩ | ⟨⟨_, _, _, h1⟩, _, h2⟩
  rotate_left
  · rw [h1, h2]; rfl
  rw [h1, h2, bind_ok]
  rfl
theorem bind_assoc {α β γ : Type} (p : PR α) (f : α → List Tok → PR β) (g : β → List Tok → PR γ) : (p.bind f).bind g = p.bind fun a r => (f a r).bind g := by cases p <;> rfl
theorem door_path (ts : List Tok) : doorT ts = (pathT ts).bind fun p r => (timesM kOpen r).bind fun t r => .ok ⟨p.name, p.a, p.b, p.len, t⟩ r := by
  unfold doorT pathT
  simp only [bind_assoc, bind_ok]
theorem link_door (ts : List Tok) : Link (doorT ts) (doorS (some ts)) := by
  rw [door_path]
  unfold doorS
  rcases (link_path ts).cases with ⟨x0, r0, h1, h2⟩ | ⟨⟨_, _, _, h1⟩, _, h2⟩
  rotate_left
  · rw [h1, h2]; rfl
  rw [h1, h2, bind_ok]
  rcases (link_times kOpen r0).cases with ⟨x1, r1, h1, h2⟩ | ⟨⟨_, _, _, h1⟩, _, h2⟩
  rotate_left
  · rw [h1, h2]; rfl
  rw [h1, h2, bind_ok]
  rfl
theorem trip_times (ts : List Tok) : tripT ts = (nameM ts).bind fun n r => (nameBehindM kOf r).bind fun o r => (timesM kUntil r).bind fun t r => .ok ⟨n, o, t.frm, t.every, t.len⟩ r := by
  unfold tripT timesM
  simp only [bind_assoc, bind_ok]
theorem link_trip (ts : List Tok) : Link (tripT ts) (tripS (some ts)) := by
  rw [trip_times]
  unfold tripS
  rcases (link_name ts).cases with ⟨x0, r0, h1, h2⟩ | ⟨⟨_, _, _, h1⟩, _, h2⟩
  rotate_left
  · rw [h1, h2]; rfl
  rw [h1, h2, bind_ok]
  rcases (link_nameAfter kOf r0).cases with ⟨x1, r1, h1, h2⟩ | ⟨⟨_, _, _, h1⟩, _, h2⟩
  rotate_left
  · rw [h1, h2]; rfl
  rw [h1, h2, bind_ok]
  rcases (link_times kUntil r1).cases with ⟨x2, r2, h1, h2⟩ | ⟨⟨_, _, _, h1⟩, _, h2⟩
  rotate_left
  · rw [h1, h2]; rfl
  rw [h1, h2, bind_ok]
  rfl
theorem link_haz (ts : List Tok) : Link (hazT ts) (hazS (some ts)) := by
  unfold hazT hazS
  rcases (link_name ts).cases with ⟨x0, r0, h1, h2⟩ | ⟨⟨_, _, _, h1⟩, _, h2⟩
  rotate_left
  · rw [h1, h2]; rfl
  rw [h1, h2, bind_ok]
  rcases (link_nameAfter kOn r0).cases with ⟨x1, r1, h1, h2⟩ | ⟨⟨_, _, _, h1⟩, _, h2⟩
  rotate_left
  · rw [h1, h2]; rfl
  rw [h1, h2, bind_ok]
  rcases (link_times kClosed r1).cases with ⟨x2, r2, h1, h2⟩ | ⟨⟨_, _, _, h1⟩, _, h2⟩
  rotate_left
  · rw [h1, h2]; rfl
  rw [h1, h2, bind_ok]
  rfl

/-- what is left is an end of what was there, and has its end's token yet -/
def Suf (a b : St) : Prop := ∀ r', b = some r' → ∃ r, a = some r ∧ r' <:+ r ∧ (EndL r → EndL r')
theorem Suf.trans {a b c : St} (h : Suf a b) (k : Suf b c) : Suf a c := by
  intro r' hr
  obtain ⟨r1, h1, h2, h3⟩ := k r' hr
  obtain ⟨r0, k1, k2, k3⟩ := h r1 h1
  exact ⟨r0, k1, h2.trans k2, fun e => h3 (k3 e)⟩
theorem Suf.refl (a : St) : Suf a a := fun r' h => ⟨r', h, List.suffix_refl _, id⟩
theorem suf_none (a : St) : Suf a none := fun r' h => by cases h
theorem suf_take {k : Int} (hk : k ≠ 4) (key : List UInt8) (st : St) : Suf st (takeS k key st).2 := by
  intro r' hr
  rcases st with _ | ⟨_ | ⟨t, r⟩⟩
  · cases hr
  · cases hr
  · rw [take_cons] at hr
    split at hr
    · rename_i h
      injection hr with hr
      subst hr
      exact ⟨_, rfl, List.suffix_cons _ _, fun e => e.tail (by rw [h.1]; exact hk)⟩
    · cases hr
theorem suf_name (st : St) : Suf st (nameS st).2 := suf_take (by decide) _ _
theorem suf_num (st : St) : Suf st (numS st).2 := suf_take (by decide) _ _
theorem suf_key (w : List UInt8) (st : St) : Suf st (keyS w st) := suf_take (by decide) _ _
theorem suf_after (w : List UInt8) (st : St) : Suf st (afterS w st).2 := (suf_key w st).trans (suf_num _)
theorem suf_nameAfter (w : List UInt8) (st : St) : Suf st (nameAfterS w st).2 := (suf_key w st).trans (suf_name _)
theorem suf_times (w : List UInt8) (st : St) : Suf st (timesS w st).2 := ((suf_after kFrom st).trans (suf_after kEvery _)).trans (suf_after w _)
theorem suf_path (st : St) : Suf st (pathS st).2 := (((suf_name st).trans (suf_name _)).trans (suf_name _)).trans (suf_num _)
theorem suf_door (st : St) : Suf st (doorS st).2 := (suf_path st).trans (suf_times _ _)
theorem suf_trip (st : St) : Suf st (tripS st).2 := ((suf_name st).trans (suf_nameAfter _ _)).trans (suf_times _ _)
theorem suf_haz (st : St) : Suf st (hazS st).2 := ((suf_name st).trans (suf_nameAfter _ _)).trans (suf_times _ _)
theorem over_some (n : Nat) (ts : List Tok) : overS n (some ts) = if n = 32 ∧ (nowL ts).kind = 1 then none else some ts := rfl
theorem suf_over (n : Nat) (st : St) : Suf st (overS n st) := by
  rcases st with _ | ts
  · exact suf_none _
  · rw [over_some]
    split
    · exact suf_none _
    · exact Suf.refl _
theorem suf_stay (ts : List Tok) : Suf (some ts) (stayS ts).2 := by
  unfold stayS
  split
  · exact suf_after _ _
  · exact Suf.refl _
theorem legs_none (n : Nat) (g : LegS) : legsS n none g = (g, none) := by cases n <;> rfl
theorem legs_succ (n : Nat) (ts : List Tok) (g : LegS) : legsS (n + 1) (some ts) g = match nameS (overS g.stops.length (numS (some ts)).2) with
    | (m, none) => (⟨g.stops ++ [m], g.rides ++ [(numS (some ts)).1], g.stays⟩, none)
    | (m, some r) => if (nowL r).kind = 4 then (⟨g.stops ++ [m], g.rides ++ [(numS (some ts)).1], g.stays⟩, some r)
      else legsS n (stayS r).2 ⟨g.stops ++ [m], g.rides ++ [(numS (some ts)).1], g.stays ++ [(stayS r).1]⟩ := rfl
theorem suf_legs : ∀ (n : Nat) (st : St) (g : LegS), Suf st (legsS n st g).2 := by
  intro n
  induction n with
  | zero => intro st g; rcases st with _ | ts <;> exact suf_none _
  | succ n ih =>
    intro st g
    rcases st with _ | ts
    · exact suf_none _
    · rw [legs_succ]
      have h0 : Suf (some ts) (nameS (overS g.stops.length (numS (some ts)).2)).2 := ((suf_num _).trans (suf_over _ _)).trans (suf_name _)
      generalize nameS (overS g.stops.length (numS (some ts)).2) = q at h0
      rcases q with ⟨m, _ | r⟩
      · exact suf_none _
      · dsimp only
        split
        · exact h0
        · exact (h0.trans (suf_stay r)).trans (ih _ _)
theorem suf_route (st : St) : Suf st (routeS st).2 := ((suf_name st).trans (suf_name _)).trans (suf_legs _ _ _)
theorem suf_thing (key : List UInt8) (x : SheetM) (st : St) : Suf st (thingS key x st).2 := by
  unfold thingS
  split
  · exact suf_name _
  split
  · exact suf_path _
  split
  · exact suf_door _
  split
  · exact suf_route _
  split
  · exact suf_trip _
  · exact suf_haz _
theorem Suf.len {a b : St} {r' : List Tok} (h : Suf a b) (hb : b = some r') : ∃ r, a = some r ∧ r'.length ≤ r.length := by
  obtain ⟨r, h1, h2, _⟩ := h r' hb
  exact ⟨r, h1, h2.length_le⟩
theorem num_less {ts r : List Tok} (h : (numS (some ts)).2 = some r) : r.length < ts.length := by
  rcases ts with _ | ⟨t, q⟩
  · cases h
  · have h' : (takeS 3 [] (some (t :: q))).2 = some r := h
    rw [take_cons] at h'
    split at h'
    · injection h' with h'; subst h'; simp
    · cases h'
theorem num_kind {ts r : List Tok} (h : (numS (some ts)).2 = some r) : ∃ t, ts = t :: r ∧ t.kind = 3 := by
  rcases ts with _ | ⟨t, q⟩
  · cases h
  · have h' : (takeS 3 [] (some (t :: q))).2 = some r := h
    rw [take_cons] at h'
    split at h'
    · rename_i h3; injection h' with h'; subst h'; exact ⟨t, rfl, h3.1⟩
    · cases h'
theorem stay_key {r : List Tok} (hr : EndL r) (h4 : (nowL r).kind ≠ 4) (hk : (nowL r).kind = 2) (ht : (nowL r).text ≠ kStay) : (∃ e l c, stayM r = .bad e l c) ∧ ∀ n g, (legsS n (stayS r).2 g).2 = none := by
  obtain ⟨t, q, rfl⟩ := hr.cons
  have hk' : t.kind = 2 := hk
  have ht' : t.text ≠ kStay := ht
  refine ⟨⟨7, t.line, t.col, ?_⟩, fun n g => ?_⟩
  · unfold stayM behindM keyM
    rw [if_pos (show headKind (t :: q) = 2 from hk')]
    simp only [takeM, if_pos hk', bind_ok, if_neg ht', bind_bad]
  · have e : stayS (t :: q) = (0, some (t :: q)) := by
      unfold stayS; rw [if_neg (fun e => ht e.2)]
    rw [e]
    cases n with
    | zero => rfl
    | succ n =>
      have e2 : (numS (some (t :: q))).2 = none := by
        show (takeS 3 [] (some (t :: q))).2 = none
        rw [take_cons, if_neg (fun e => by rw [hk'] at e; exact absurd e.1 (by decide))]
      rw [legs_succ, e2]
      rfl
theorem link_stay {r : List Tok} (h : ¬ ((nowL r).kind = 2 ∧ (nowL r).text ≠ kStay)) (hr : EndL r) : Link (stayM r) (stayS r) := by
  obtain ⟨t, q, rfl⟩ := hr.cons
  unfold stayM stayS
  by_cases hk : t.kind = 2
  · have ht : t.text = kStay := Classical.byContradiction fun e => h ⟨hk, e⟩
    rw [if_pos (show headKind (t :: q) = 2 from hk), if_pos ⟨hk, ht⟩]
    exact link_after _ _
  · rw [if_neg (show ¬ headKind (t :: q) = 2 from hk), if_neg (fun e => hk e.1)]
    rfl
def legOf (g : Legs) : LegS := ⟨g.stops.map (·.text), g.rides, g.stays⟩
/-- legs: the same up to 32 stops; a fault, where there are more -/
def LinkL : PR Legs → LegS × St → Prop
  | .ok g r, s => if g.stops.length ≤ 32 then s = (legOf g, some r) else s.2 = none
  | .bad _ _ _, s => s.2 = none
theorem legs_len : ∀ (n : Nat) (ts r : List Tok) (g g' : Legs), legsF n ts g = .ok g' r → g.stops.length < g'.stops.length := by
  intro n
  induction n with
  | zero => intro ts r g g' h; cases h
  | succ n ih =>
    intro ts r g g' h
    simp only [legsF] at h
    obtain ⟨d, r1, h1, h⟩ := bind_eq_ok h
    obtain ⟨t, r2, h2, h⟩ := bind_eq_ok h
    split at h
    · injection h with h3 h4
      subst h3
      simp
    · obtain ⟨s, r3, h3, h⟩ := bind_eq_ok h
      have := ih _ _ _ _ h
      simp at this
      omega
theorem link_legs : ∀ (n : Nat) (ts : List Tok) (g : Legs), EndL ts → ts.length < n → g.stops.length ≤ 32 → LinkL (legsF n ts g) (legsS n (some ts) (legOf g)) := by
  intro n
  induction n with
  | zero => intro ts g _ h; omega
  | succ n ih =>
    intro ts g he hlen hg
    rw [legs_succ]
    simp only [legsF]
    have hgl : (legOf g).stops.length = g.stops.length := by simp [legOf]
    rcases (link_num ts).cases with ⟨d, r, h1, h2⟩ | ⟨⟨_, _, _, h1⟩, d, h2⟩
    rotate_left
    · rw [h1, h2]; rfl
    · rw [h1, h2, bind_ok, hgl]
      have her : EndL r ∧ r.length < ts.length := by
        obtain ⟨t, e, hk⟩ := num_kind (by rw [h2])
        rw [e] at he ⊢
        exact ⟨he.tail (by omega), by simp⟩
      by_cases hov : g.stops.length = 32 ∧ (nowL r).kind = 1
      · -- a word too many
        have e : overS g.stops.length (some r) = none := by rw [over_some, if_pos hov]
        rw [e]
        show LinkL _ (_, none)
        obtain ⟨t, q, rfl⟩ := her.1.cons
        have hk : t.kind = 1 := hov.2
        simp only [takeM, if_pos hk, bind_ok]
        split
        · show (if (g.stops ++ [t]).length ≤ 32 then _ else _)
          rw [if_neg (by simp; omega)]
        · cases hq : (stayM q).bind fun s r => legsF n r ⟨g.stops ++ [t], g.rides ++ [d], g.stays ++ [s]⟩ with
          | bad e l c => rfl
          | ok g' r' =>
            obtain ⟨s, r3, h3, h4⟩ := bind_eq_ok hq
            have := legs_len _ _ _ _ _ h4
            simp at this
            show (if g'.stops.length ≤ 32 then _ else _)
            rw [if_neg (by omega)]
      · have e : overS g.stops.length (some r) = some r := by rw [over_some, if_neg hov]
        rw [e]
        rcases (link_take (k := 1) (by decide) [] r).cases with ⟨t, r2, h3, h4⟩ | ⟨⟨_, _, _, h3⟩, t, h4⟩
        rotate_left
        · have e2 : nameS (some r) = (t.text, none) := by unfold nameS; rw [h4]
          rw [h3, e2]; rfl
        · have e2 : nameS (some r) = (t.text, some r2) := by unfold nameS; rw [h4]
          rw [h3, e2, bind_ok]
          dsimp only
          obtain ⟨e3, hk⟩ := take_ok h3
          have her2 : EndL r2 := by rw [e3] at her; exact her.1.tail (by omega)
          have hl2 : r2.length < r.length := by rw [e3]; simp
          have hg31 : g.stops.length < 32 := by
            rcases Nat.lt_or_ge g.stops.length 32 with hl | hl
            · exact hl
            · exact absurd ⟨by omega, by rw [e3]; exact hk⟩ hov
          have hh : headKind r2 = (nowL r2).kind := by obtain ⟨u, q, rfl⟩ := her2.cons; rfl
          rw [hh]
          split
          · rename_i h5
            show (if (g.stops ++ [t]).length ≤ 32 then _ else _)
            rw [if_pos (by simp; omega)]
            simp [legOf]
          · rename_i h5
            by_cases hs : (nowL r2).kind = 2 ∧ (nowL r2).text ≠ kStay
            · obtain ⟨⟨_, _, _, h6⟩, h7⟩ := stay_key her2 h5 hs.1 hs.2
              rw [h6]
              exact h7 _ _
            · rcases (link_stay hs her2).cases with ⟨s, r3, h6, h7⟩ | ⟨⟨_, _, _, h6⟩, s, h7⟩
              · rw [h6, h7, bind_ok]
                have hl3 : EndL r3 ∧ r3.length ≤ r2.length := keeps_stay _ _ _ her2 h6
                have := ih r3 ⟨g.stops ++ [t], g.rides ++ [d], g.stays ++ [s]⟩ hl3.1 (by omega) (by simp; omega)
                simpa [legOf] using this
              · rw [h6, h7]
                show LinkL (.bad _ _ _) (legsS n none _)
                rw [legs_none]
                rfl

theorem link_route {ts : List Tok} (he : EndL ts) : match routeT ts with
    | .ok p r => if p.2.stops.length ≤ 32 then routeS (some ts) = (routeOf p.1 p.2, some r) else (routeS (some ts)).2 = none
    | .bad _ _ _ => (routeS (some ts)).2 = none := by
  unfold routeT routeS
  rcases (link_name ts).cases with ⟨n, r, h1, h2⟩ | ⟨⟨_, _, _, h1⟩, n, h2⟩
  rotate_left
  · rw [h1, h2]; rfl
  have he1 := (keeps_name _ _ _ he h1).1
  rw [h1, h2, bind_ok]
  dsimp only
  rcases (link_take (k := 1) (by decide) [] r).cases with ⟨t, r2, h3, h4⟩ | ⟨⟨_, _, _, h3⟩, t, h4⟩
  rotate_left
  · have e2 : nameS (some r) = (t.text, none) := by unfold nameS; rw [h4]
    rw [h3, e2]; rfl
  have e2 : nameS (some r) = (t.text, some r2) := by unfold nameS; rw [h4]
  rw [h3, e2, bind_ok]
  obtain ⟨e3, hk⟩ := take_ok h3
  have her2 : EndL r2 := by rw [e3] at he1; exact he1.tail (by omega)
  have hl := link_legs (r2.length + 1) r2 ⟨[t], [], []⟩ her2 (by omega) (by simp)
  have el : legOf ⟨[t], [], []⟩ = ⟨[t.text], [], []⟩ := rfl
  rw [el] at hl
  unfold legsM
  show match (legsF (r2.length + 1) r2 ⟨[t], [], []⟩).bind fun g r => PR.ok (n, g) r with
    | .ok p r => if p.2.stops.length ≤ 32 then ((⟨n, (legsS (r2.length + 1) (some r2) ⟨[t.text], [], []⟩).1.stops, (legsS (r2.length + 1) (some r2) ⟨[t.text], [], []⟩).1.rides, (legsS (r2.length + 1) (some r2) ⟨[t.text], [], []⟩).1.stays⟩ : RouteM), (legsS (r2.length + 1) (some r2) ⟨[t.text], [], []⟩).2) = (routeOf p.1 p.2, some r) else (legsS (r2.length + 1) (some r2) ⟨[t.text], [], []⟩).2 = none
    | .bad _ _ _ => (legsS (r2.length + 1) (some r2) ⟨[t.text], [], []⟩).2 = none
  cases hq : legsF (r2.length + 1) r2 ⟨[t], [], []⟩ with
  | bad e l c => rw [hq] at hl; exact hl
  | ok g r' =>
    rw [hq, LinkL] at hl
    rw [bind_ok]
    dsimp only
    by_cases h32 : g.stops.length ≤ 32
    · rw [if_pos h32] at hl ⊢
      rw [hl]; rfl
    · rw [if_neg h32] at hl ⊢
      exact hl
/-- the end of a line -/
theorem end_full {α : Type} {n most : Nat} {first : Tok} (h : most ≤ n) (p : PR α) (f : α → List Tok → PR SheetM) : ∃ e l c, (p.bind fun a r => (endM n most first r).bind fun _ r => f a r) = .bad e l c := by
  cases p with
  | bad e l c => exact ⟨e, l, c, rfl⟩
  | ok a r =>
    rw [bind_ok]
    unfold endM
    cases takeM 4 r with
    | bad e l c => exact ⟨e, l, c, rfl⟩
    | ok t r => rw [bind_ok, if_pos h]; exact ⟨_, _, _, rfl⟩
theorem link_end {α : Type} {n most : Nat} {first : Tok} (h : ¬ most ≤ n) {p : PR α} {s : α × St} (hp : Link p s) (up : α → SheetM) : Link (p.bind fun a r => (endM n most first r).bind fun _ r => .ok (up a) r) (up s.1, (takeS 4 [] s.2).2) := by
  rcases hp.cases with ⟨a, r, h1, h2⟩ | ⟨⟨_, _, _, h1⟩, a, h2⟩
  rotate_left
  · rw [h1, h2]; rfl
  rw [h1, h2, bind_ok]
  unfold endM
  rcases (link_take (k := 4) (by decide) [] r).cases with ⟨t, r2, h3, h4⟩ | ⟨⟨_, _, _, h3⟩, t, h4⟩
  · rw [h3, bind_ok, if_neg h]
    show (up a, (takeS 4 [] (some r)).2) = (up a, some r2)
    rw [h4]
  · rw [h3]
    show (takeS 4 [] (some r)).2 = none
    rw [h4]
theorem step_kStop (x : SheetM) (t : Tok) (r : List Tok) (e : t.text = kStop) : stepM false x t r = stopL x t r := by
  unfold stepM
  rw [e, if_neg (show ¬ kStop = kHorizon by decide), if_neg (show ¬ (false = true) by decide), if_pos rfl]
theorem step_kPath (x : SheetM) (t : Tok) (r : List Tok) (e : t.text = kPath) : stepM false x t r = pathL x t r := by
  unfold stepM
  rw [e, if_neg (show ¬ kPath = kHorizon by decide), if_neg (show ¬ (false = true) by decide), if_neg (show ¬ kPath = kStop by decide), if_pos rfl]
theorem step_kDoor (x : SheetM) (t : Tok) (r : List Tok) (e : t.text = kDoor) : stepM false x t r = doorL x t r := by
  unfold stepM
  rw [e, if_neg (show ¬ kDoor = kHorizon by decide), if_neg (show ¬ (false = true) by decide), if_neg (show ¬ kDoor = kStop by decide), if_neg (show ¬ kDoor = kPath by decide), if_pos rfl]
theorem step_kRoute (x : SheetM) (t : Tok) (r : List Tok) (e : t.text = kRoute) : stepM false x t r = routeL x t r := by
  unfold stepM
  rw [e, if_neg (show ¬ kRoute = kHorizon by decide), if_neg (show ¬ (false = true) by decide), if_neg (show ¬ kRoute = kStop by decide), if_neg (show ¬ kRoute = kPath by decide), if_neg (show ¬ kRoute = kDoor by decide), if_pos rfl]
theorem step_kTrip (x : SheetM) (t : Tok) (r : List Tok) (e : t.text = kTrip) : stepM false x t r = tripL x t r := by
  unfold stepM
  rw [e, if_neg (show ¬ kTrip = kHorizon by decide), if_neg (show ¬ (false = true) by decide), if_neg (show ¬ kTrip = kStop by decide), if_neg (show ¬ kTrip = kPath by decide), if_neg (show ¬ kTrip = kDoor by decide), if_neg (show ¬ kTrip = kRoute by decide), if_pos rfl]
theorem step_kHazard (x : SheetM) (t : Tok) (r : List Tok) (e : t.text = kHazard) : stepM false x t r = hazL x t r := by
  unfold stepM
  rw [e, if_neg (show ¬ kHazard = kHorizon by decide), if_neg (show ¬ (false = true) by decide), if_neg (show ¬ kHazard = kStop by decide), if_neg (show ¬ kHazard = kPath by decide), if_neg (show ¬ kHazard = kDoor by decide), if_neg (show ¬ kHazard = kRoute by decide), if_neg (show ¬ kHazard = kTrip by decide), if_pos rfl]
theorem step_no (x : SheetM) (t : Tok) (r : List Tok) (hm : t.text ∉ kinds) : ∃ e l c, stepM false x t r = .bad e l c := by
  simp only [kinds, List.mem_cons, List.not_mem_nil, or_false, not_or] at hm
  obtain ⟨h1, h2, h3, h4, h5, h6⟩ := hm
  unfold stepM
  by_cases h0 : t.text = kHorizon
  · rw [if_pos h0, if_neg (show ¬ (false = true) by decide)]; exact ⟨_, _, _, rfl⟩
  · rw [if_neg h0, if_neg (show ¬ (false = true) by decide), if_neg h1, if_neg h2, if_neg h3, if_neg h4, if_neg h5, if_neg h6]; exact ⟨_, _, _, rfl⟩
theorem link_line (x : SheetM) (t : Tok) {r : List Tok} (he : EndL r) (hk : isRes t.text = true → t.kind = 2) : Link (stepM false x t r) (lineS x t r) := by
  unfold lineS
  have kk : ∀ k, k ∈ kinds → isRes k = true := by decide
  by_cases hm : t.text ∈ kinds
  · have h2 := hk (kk _ hm)
    rw [if_pos ⟨h2, hm⟩]
    have hno : ∀ {p : PR SheetM}, (∃ e l c, p = .bad e l c) → Link p (x, none) := by intro p h; obtain ⟨e, l, c, h⟩ := h; rw [h]; rfl
    have key : ∀ k, t.text = k → (if fullS x t.text = true then (x, none) else ((thingS t.text x (some r)).1, (takeS 4 [] (thingS t.text x (some r)).2).2)) = (if fullS x k = true then (x, none) else ((thingS k x (some r)).1, (takeS 4 [] (thingS k x (some r)).2).2)) := fun k e => by rw [e]
    simp only [kinds, List.mem_cons, List.not_mem_nil, or_false] at hm
    rcases hm with e | e | e | e | e | e
    · rw [key _ e, step_kStop x t r e]
      show Link (stopL x t r) (if decide (256 ≤ x.stops.length) = true then (x, none) else ({ x with stops := x.stops ++ [(nameS (some r)).1] }, (takeS 4 [] (nameS (some r)).2).2))
      unfold stopL
      by_cases hf : 256 ≤ x.stops.length
      · rw [if_pos (by simpa using hf)]; exact hno (end_full hf _ _)
      · rw [if_neg (by simpa using hf)]; exact link_end hf (link_name r) fun n => { x with stops := x.stops ++ [n] }
    · rw [key _ e, step_kPath x t r e]
      show Link (pathL x t r) (if decide (1024 ≤ x.paths.length) = true then (x, none) else ({ x with paths := x.paths ++ [(pathS (some r)).1] }, (takeS 4 [] (pathS (some r)).2).2))
      unfold pathL
      by_cases hf : 1024 ≤ x.paths.length
      · rw [if_pos (by simpa using hf)]; exact hno (end_full hf _ _)
      · rw [if_neg (by simpa using hf)]; exact link_end hf (link_path r) fun n => { x with paths := x.paths ++ [n] }
    · rw [key _ e, step_kDoor x t r e]
      show Link (doorL x t r) (if decide (256 ≤ x.doors.length) = true then (x, none) else ({ x with doors := x.doors ++ [(doorS (some r)).1] }, (takeS 4 [] (doorS (some r)).2).2))
      unfold doorL
      by_cases hf : 256 ≤ x.doors.length
      · rw [if_pos (by simpa using hf)]; exact hno (end_full hf _ _)
      · rw [if_neg (by simpa using hf)]; exact link_end hf (link_door r) fun n => { x with doors := x.doors ++ [n] }
    · rw [key _ e, step_kRoute x t r e]
      show Link (routeL x t r) (if decide (256 ≤ x.routes.length) = true then (x, none) else ({ x with routes := x.routes ++ [(routeS (some r)).1] }, (takeS 4 [] (routeS (some r)).2).2))
      unfold routeL
      by_cases hf : 256 ≤ x.routes.length
      · rw [if_pos (by simpa using hf)]; exact hno (end_full hf _ _)
      · rw [if_neg (by simpa using hf)]
        have hl := link_route he
        cases hq : routeT r with
        | bad er l c =>
          rw [hq] at hl
          show (takeS 4 [] (routeS (some r)).2).2 = none
          rw [hl]; rfl
        | ok p r1 =>
          rw [hq] at hl
          rw [bind_ok]
          dsimp only at hl
          by_cases h32 : p.2.stops.length ≤ 32
          · rw [if_pos h32] at hl
            rw [hl]
            unfold endM
            have ho : ∀ y q, overLeg p.2 y q = .ok y q := by
              intro y q
              unfold overLeg
              rw [List.getElem?_eq_none h32]
            rcases (link_take (k := 4) (by decide) [] r1).cases with ⟨t4, r2, h3, h4⟩ | ⟨⟨_, _, _, h3⟩, t4, h4⟩
            · rw [h3, bind_ok, if_neg hf, bind_ok, ho]
              show (_, (takeS 4 [] (some r1)).2) = (_, some r2)
              rw [h4]
            · rw [h3]
              show (takeS 4 [] (some r1)).2 = none
              rw [h4]
          · rw [if_neg h32] at hl
            have hb : ∃ e l c, ((endM x.routes.length 256 t r1).bind fun _ r => overLeg p.2 { x with routes := x.routes ++ [routeOf p.1 p.2] } r) = .bad e l c := by
              unfold endM
              cases takeM 4 r1 with
              | bad e l c => exact ⟨e, l, c, rfl⟩
              | ok t4 r2 =>
                rw [bind_ok, if_neg hf, bind_ok]
                unfold overLeg
                obtain ⟨u, hu⟩ : ∃ u, p.2.stops[32]? = some u := ⟨_, List.getElem?_eq_getElem (by omega)⟩
                rw [hu]
                exact ⟨_, _, _, rfl⟩
            obtain ⟨e1, l1, c1, hb⟩ := hb
            rw [hb]
            show (takeS 4 [] (routeS (some r)).2).2 = none
            rw [hl]; rfl
    · rw [key _ e, step_kTrip x t r e]
      show Link (tripL x t r) (if decide (1024 ≤ x.trips.length) = true then (x, none) else ({ x with trips := x.trips ++ [(tripS (some r)).1] }, (takeS 4 [] (tripS (some r)).2).2))
      unfold tripL
      by_cases hf : 1024 ≤ x.trips.length
      · rw [if_pos (by simpa using hf)]; exact hno (end_full hf _ _)
      · rw [if_neg (by simpa using hf)]; exact link_end hf (link_trip r) fun n => { x with trips := x.trips ++ [n] }
    · rw [key _ e, step_kHazard x t r e]
      show Link (hazL x t r) (if decide (256 ≤ x.hazards.length) = true then (x, none) else ({ x with hazards := x.hazards ++ [(hazS (some r)).1] }, (takeS 4 [] (hazS (some r)).2).2))
      unfold hazL
      by_cases hf : 256 ≤ x.hazards.length
      · rw [if_pos (by simpa using hf)]; exact hno (end_full hf _ _)
      · rw [if_neg (by simpa using hf)]; exact link_end hf (link_haz r) fun n => { x with hazards := x.hazards ++ [n] }
  · rw [if_neg (fun e => hm e.2)]
    obtain ⟨e, l, c, h⟩ := step_no x t r hm
    rw [h]; rfl
/-- reserved words are of their kind -/
def KeyT (ts : List Tok) : Prop := ∀ t ∈ ts, isRes t.text = true → t.kind = 2
theorem valid_key {t : Tok} (h : validT t) (hr : isRes t.text = true) : t.kind = 2 := by
  rcases h with ⟨_, hk, _⟩ | ⟨hc, _⟩
  · rw [hk, if_pos hr]
  · have h0 := Tk.canon_all hc
    have kk : ∀ k ∈ reservedL, Tk.allDig k = false := by decide
    have this : ∀ k, isRes k = true → Tk.allDig k = false := fun k hk => kk k (by simpa [isRes] using hk)
    rw [this _ hr] at h0
    cases h0
theorem good_key : ∀ {l : List Tok} {b : Bool}, good b l → KeyT l
  | [], _, _ => fun t h => by cases h
  | t :: r, b, h => fun u hu hr => by
    rcases h with ⟨_, _, he, _, hg⟩ | ⟨hv, hg⟩
    · rcases List.mem_cons.1 hu with rfl | hu
      · rw [he] at hr; exact absurd hr (by decide)
      · exact good_key hg u hu hr
    · rcases List.mem_cons.1 hu with rfl | hu
      · exact valid_key hv hr
      · exact good_key hg u hu hr
/-- a line's end -/
theorem end_suf {st : St} {r' : List Tok} (h : (takeS 4 [] st).2 = some r') : ∃ r, st = some r ∧ r' <:+ r ∧ r'.length < r.length := by
  rcases st with _ | ⟨_ | ⟨t, r⟩⟩
  · cases h
  · cases h
  · rw [take_cons] at h
    split at h
    · injection h with h; subst h; exact ⟨_, rfl, List.suffix_cons _ _, by simp⟩
    · cases h
theorem line_suf {x : SheetM} {t : Tok} {r r' : List Tok} (h : (lineS x t r).2 = some r') : r' <:+ r ∧ r'.length < r.length := by
  unfold lineS at h
  split at h
  · split at h
    · cases h
    · obtain ⟨q, h1, h2, h3⟩ := end_suf h
      obtain ⟨q2, h4, h5, _⟩ := suf_thing _ _ _ q h1
      injection h4 with h4; subst h4
      exact ⟨h2.trans h5, by have := h5.length_le; omega⟩
  · cases h
theorem EndL.suf {a b : List Tok} (h : EndL a) (hs : b <:+ a) : b = [] ∨ EndL b := by
  obtain ⟨q, e⟩ := hs
  have := h.drop q.length
  rw [← e] at this
  simpa using this
theorem run_nil (n : Nat) (x : SheetM) : runS n x (some []) = (x, some []) := by cases n <;> rfl
theorem run_none (n : Nat) (x : SheetM) : runS n x none = (x, none) := by cases n <;> rfl
theorem run_cons (n : Nat) (x : SheetM) (t : Tok) (r : List Tok) : runS (n + 1) x (some (t :: r)) = runS n (lineS x t r).1 (lineS x t r).2 := rfl
theorem link_run : ∀ (n : Nat) (ts : List Tok) (x : SheetM), ts.length ≤ n → KeyT ts → (ts = [] ∨ EndL ts) → Link (runF n false x ts) (runS n x (some ts)) := by
  intro n
  induction n with
  | zero =>
    intro ts x h _ _
    cases ts with
    | nil => rfl
    | cons t r => simp at h
  | succ n ih =>
    intro ts x h hk he
    cases ts with
    | nil => rfl
    | cons t r =>
      rw [run_cons]
      show Link ((stepM false x t r).bind fun x' r' => runF n false x' r') _
      by_cases h4 : t.kind = 4
      · -- a line of no token: none is known
        have hl : lineS x t r = (x, none) := by unfold lineS; rw [if_neg (fun e => by rw [h4] at e; exact absurd e.1 (by decide))]
        have hs : ∃ e l c, stepM false x t r = .bad e l c := step_no x t r fun hm => by
          have kk : ∀ k, k ∈ kinds → isRes k = true := by decide
          have := hk t (by simp) (kk _ hm)
          omega
        obtain ⟨e, l, c, hs⟩ := hs
        rw [hs, hl, run_none]; rfl
      · have her : EndL r := by
          rcases he with he | he
          · cases he
          · exact he.tail h4
        rcases (link_line x t her (hk t (by simp))).cases with ⟨x', r', h1, h2⟩ | ⟨⟨_, _, _, h1⟩, x', h2⟩
        · have hs := line_suf (by rw [h2])
          rw [h1, h2, bind_ok]
          exact ih r' x' (by simp at h; omega) (fun u hu hr => hk u (List.mem_cons_of_mem _ (hs.1.subset hu)) hr) (EndL.suf her hs.1)
        · rw [h1, h2, run_none]; rfl
theorem link_parse {toks : List Tok} (hg : good false toks) : Link (parseM toks) (parseS toks) := by
  unfold parseM parseS
  cases toks with
  | nil => rfl
  | cons t r =>
    rw [if_neg (by simp)]
    have hk := good_key hg
    have he : EndL (t :: r) := by
      rcases good_end hg with ⟨h, _⟩ | h
      · cases h
      · exact h
    show Link ((stepM true emptyM t r).bind fun x' r' => runF r.length false x' r') _
    show Link _ (runS r.length { emptyM with horizon := (numS (keyS kHorizon (some (t :: r)))).1 } (takeS 4 [] (numS (keyS kHorizon (some (t :: r)))).2).2)
    unfold stepM
    by_cases h0 : t.text = kHorizon
    · have h2 := hk t (by simp) (by rw [h0]; decide)
      have e : keyS kHorizon (some (t :: r)) = some r := by unfold keyS; rw [take_cons, if_pos ⟨h2, fun _ => h0⟩]
      rw [if_pos h0, if_pos rfl, e]
      have her : EndL r := he.tail (by omega)
      unfold horizonL
      rcases (link_num r).cases with ⟨d, r1, h1, h2⟩ | ⟨⟨_, _, _, h1⟩, d, h2⟩
      rotate_left
      · rw [h1, h2]; exact run_none _ _ ▸ rfl
      have hr1 : r1 <:+ r ∧ EndL r1 := by
        obtain ⟨q, k1, k2, k3⟩ := suf_num (some r) r1 (by rw [h2])
        injection k1 with k1; subst k1
        exact ⟨k2, k3 her⟩
      rw [h1, h2, bind_ok]
      rcases (link_take (k := 4) (by decide) [] r1).cases with ⟨t4, r2, h3, h4⟩ | ⟨⟨_, _, _, h3⟩, t4, h4⟩
      · have hr2 := end_suf (st := some r1) (r' := r2) (by rw [h4])
        obtain ⟨q, k1, k2, k3⟩ := hr2
        injection k1 with k1; subst k1
        rw [h3, h4, bind_ok, bind_ok]
        refine link_run _ _ _ ?_ ?_ (EndL.suf hr1.2 k2)
        · have := hr1.1.length_le; omega
        · intro u hu hr; exact hk u (List.mem_cons_of_mem _ ((k2.trans hr1.1).subset hu)) hr
      · rw [h3, h4]; exact run_none _ _ ▸ rfl
    · have e : keyS kHorizon (some (t :: r)) = none := by unfold keyS; rw [take_cons, if_neg (fun e => h0 (e.2 rfl))]
      rw [if_neg h0, if_pos rfl, e]
      exact run_none _ _ ▸ rfl
end Go.Proofs.YtcmlmfcnbmpajaaGreatDoor.Sw

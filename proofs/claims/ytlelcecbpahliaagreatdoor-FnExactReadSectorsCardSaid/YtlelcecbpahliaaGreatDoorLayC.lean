/- Layings (by the shelf own tools). -/
import Derived.Test.YtlelcecbpahliaaGreatDoorLays
